/- Whole numbers: what the program's Parse answers. -/
import Derived.Test.YtidbpkibjficnaaGreatDoorZWhY
namespace Go.Proofs.YtidbpkibjficnaaGreatDoor
open Go.RowKit Num

/-- what a size's reading and a sign come to -/
def comb (neg : Bool) (M e0 : Nat) (N : Int) (er : Nat) : Prop :=
  (e0 ≠ 0 ∧ er = e0 ∧ N = 0) ∨ (e0 = 0 ∧ (neg = true ∧ M = 0) ∧ er = 3 ∧ N = 0) ∨ (e0 = 0 ∧ ¬ (neg = true ∧ M = 0) ∧ er = 0 ∧ N = if neg then -(M : Int) else M)
theorem comb.unique {neg : Bool} {M e0 : Nat} {N N' : Int} {er er' : Nat} (h : comb neg M e0 N er) (k : comb neg M e0 N' er') : N = N' ∧ er = er' := by
  rcases h with ⟨h0, h1, h2⟩ | ⟨h0, h3, h1, h2⟩ | ⟨h0, h3, h1, h2⟩ <;> rcases k with ⟨k0, k1, k2⟩ | ⟨k0, k3, k1, k2⟩ | ⟨k0, k3, k1, k2⟩
  all_goals first | exact absurd h0 k0 | exact absurd k0 h0 | exact absurd h3 k3 | exact absurd k3 h3 | exact ⟨by rw [h2, k2], by rw [h1, k1]⟩
/-- a sign ahead of a size's text -/
def Ahead (bs : List UInt8) (neg : Bool) (ds : List UInt8) : Prop := (neg = true ∧ bs = 45 :: ds) ∨ (neg = false ∧ bs = ds ∧ bs.head? ≠ some 45)
/-- what a text tells: a whole number, or an error's number -/
def IsWParse (bs : List UInt8) (N : Int) (er : Nat) : Prop :=
  ∃ (neg : Bool) (ds : List UInt8) (M e0 : Nat), Ahead bs neg ds ∧ IsParse ds M e0 ∧ comb neg M e0 N er
theorem IsWParse.unique {bs : List UInt8} {N N' : Int} {er er' : Nat} (h : IsWParse bs N er) (k : IsWParse bs N' er') : N = N' ∧ er = er' := by
  obtain ⟨neg, ds, M, e0, h1, h2, h3⟩ := h
  obtain ⟨neg', ds', M', e0', k1, k2, k3⟩ := k
  have : neg = neg' ∧ ds = ds' := by
    rcases h1 with ⟨rfl, rfl⟩ | ⟨rfl, rfl, hh⟩ <;> rcases k1 with ⟨rfl, kk⟩ | ⟨rfl, kk, kh⟩
    · exact ⟨rfl, by injection kk⟩
    · simp at kh
    · rw [kk] at hh; simp at hh
    · exact ⟨rfl, kk⟩
  obtain ⟨rfl, rfl⟩ := this
  obtain ⟨rfl, rfl⟩ := h2.unique k2
  exact h3.unique k3
/-- a whole number that a text is read as -/
def WParses (bs : List UInt8) (w : World) (e : Ending) (w' : World) : Prop :=
  ∃ A xs c er N, e = .returned (.tuple #[.agg #[.bool (decide (N < 0)), .slice A xs.length c], .int .i64 (er : Nat)]) ∧ xs.length ≤ c ∧ Norm 4294967296 xs ∧ val 4294967296 xs = N.natAbs ∧ IsWParse bs N er ∧ Rd w' (fun g => g < w'.heap.size) .u32 A xs ∧ Below w.heap.size w w'

theorem cut_minus (bs : List UInt8) : (Lib.hasPrefix bs [45] = true ∧ ∃ ds, bs = 45 :: ds ∧ Lib.trimPrefix bs [45] = ds) ∨ (Lib.hasPrefix bs [45] = false ∧ bs.head? ≠ some 45 ∧ Lib.trimPrefix bs [45] = bs) := by
  cases bs with
  | nil => exact .inr ⟨rfl, by simp, rfl⟩
  | cons c r =>
    by_cases hc : c = 45
    · subst hc
      exact .inl ⟨by simp [Lib.hasPrefix], r, rfl, by simp [Lib.trimPrefix, Lib.hasPrefix]⟩
    · have h : Lib.hasPrefix (c :: r) [45] = false := by simp only [Lib.hasPrefix, List.isPrefixOf]; rw [show (45 == c) = false from by simpa using fun e => hc (Eq.symm e)]; rfl
      exact .inr ⟨h, by simpa using hc, by rw [Lib.trimPrefix, h]; rfl⟩

set_option maxRecDepth 10000 in
set_option maxHeartbeats 3200000 in
theorem whole_Parse (t : ByteArray) (hsz : t.size ≤ 20971521) (w : World) :
    Calls Tryz.prog 81 #[.string t] w (WParses t.data.toList w) := by
  have hlen : t.data.toList.length = t.size := by rw [data_size]
  obtain ⟨bs, hbs⟩ : ∃ bs, t.data.toList = bs := ⟨_, rfl⟩
  have cC := Tryz.strings_CutPrefix t ⟨#[45]⟩
  rw [hbs] at cC hlen ⊢
  obtain ⟨neg, ds, hneg, hds, hcut⟩ : ∃ neg ds, Lib.hasPrefix bs (ByteArray.mk #[45]).data.toList = neg ∧ Lib.trimPrefix bs (ByteArray.mk #[45]).data.toList = ds ∧ Ahead bs neg ds := by
    rcases cut_minus bs with ⟨h1, ds, h2, h3⟩ | ⟨h1, h2, h3⟩
    · exact ⟨true, ds, h1, h3, .inl ⟨rfl, h2⟩⟩
    · exact ⟨false, bs, h1, h3, .inr ⟨rfl, rfl, h2⟩⟩
  have hdl : ds.length ≤ 20971521 := by
    rcases hcut with ⟨_, h⟩ | ⟨_, h, _⟩
    · rw [h] at hlen; simp at hlen; omega
    · rw [← h]; omega
  rw [hneg, hds] at cC
  obtain ⟨dt, hdt⟩ : ∃ dt : ByteArray, (⟨ds.toArray⟩ : ByteArray) = dt := ⟨_, rfl⟩
  have hdd : dt.data.toList = ds := by rw [← hdt]
  rw [hdt] at cC
  have cP := nat_Parse_any dt (by rw [← data_size, hdd]; exact hdl)
  rw [hdd] at cP
  have CC := Lib.hid cC
  have CP := Lib.hid cP
  have HCUT := Lib.hid hcut
  clear cC cP hneg hds hdt hdd hdl hlen hbs hcut
  have B0 := below_new w (.cells #[.bool false, .slice none 0 0] 24)
  cases neg
  all_goals
    go_enter Tryz.func81, Tryz.ntmps81
    go_wp2_with fail
    refine (CC.out _).mono ?_
    rintro e w1 ⟨rfl, rfl⟩
    go_wp2_with fail
    refine (CP.out _).mono ?_
    rintro e w2 ⟨A1, xs, c1, er, rfl, hc1, hn1, hp1, hr1, b1⟩
    have HN1 := Lib.hid hn1
    have HP1 := Lib.hid hp1
    have B1 := B0.trans (b1.mono B0.size)
    obtain ⟨f0, f1, f2, f3⟩ := new_whole w b1
    clear hn1 hp1 CC CP
  · rcases HP1.out with ⟨_, h0, rfl⟩ | ⟨_, _, h0, rfl⟩ | ⟨_, _, h0, rfl⟩
    · clear h0
      go_wp2_with fail
      obtain ⟨r0, r1, r2, r3⟩ := stored_whole f0 (.bool false) (.slice none 0 0)
      exact bodyPost_ret (v := .tuple #[.agg #[.bool false, .slice none 0 0], .int .i64 4]) (by simp [results, Tryz.results81, go_sem, r0, r1]) rfl
        ⟨none, [], 0, _, 0, rfl, by simp, norm_nil _, rfl, ⟨false, ds, _, _, HCUT.out, HP1.out, .inl ⟨by omega, rfl, rfl⟩⟩, Rd.nil, B1.trans (r3 _ (Nat.le_refl _))⟩
    · clear h0
      go_wp2_with fail
      obtain ⟨r0, r1, r2, r3⟩ := stored_whole f0 (.bool false) (.slice none 0 0)
      exact bodyPost_ret (v := .tuple #[.agg #[.bool false, .slice none 0 0], .int .i64 3]) (by simp [results, Tryz.results81, go_sem, r0, r1]) rfl
        ⟨none, [], 0, _, 0, rfl, by simp, norm_nil _, rfl, ⟨false, ds, _, _, HCUT.out, HP1.out, .inl ⟨by omega, rfl, rfl⟩⟩, Rd.nil, B1.trans (r3 _ (Nat.le_refl _))⟩
    · clear h0
      have HV := Lib.hid (show wv false xs = wv false xs from rfl)
      obtain ⟨N, hN⟩ : ∃ N, wv false xs = N := ⟨_, rfl⟩
      have HE := Lib.hid hN
      clear hN HV
      go_wp2_with fail
      refine (whole_own false xs A1 c1 N _ HN1.out HE.out).mono ?_
      rintro e w3 ⟨rfl, b3⟩
      have B3 := B1.trans (b3.mono B1.size)
      obtain ⟨g0, g1, g2, g3⟩ := new_whole w (b1.trans (b3.mono b1.size))
      clear f0 f1 f2 f3
      go_wp2_with fail
      obtain ⟨r0, r1, r2, r3⟩ := stored_whole g0 (.bool (decide (N < 0))) (.slice A1 xs.length c1)
      exact bodyPost_ret (v := .tuple #[.agg #[.bool (decide (N < 0)), .slice A1 xs.length c1], .int .i64 0]) (by simp [results, Tryz.results81, go_sem, r0, r1]) rfl
        ⟨A1, xs, c1, 0, N, rfl, hc1, HN1.out, abs_of HE.out, ⟨false, ds, _, _, HCUT.out, HP1.out, .inr (.inr ⟨rfl, by simp, rfl, by rw [← HE.out]; rfl⟩)⟩, (hr1.on b3).stored g0 _ _, B3.trans (r3 _ (Nat.le_refl _))⟩
  · rcases HP1.out with ⟨_, h0, rfl⟩ | ⟨_, _, h0, rfl⟩ | ⟨_, _, h0, rfl⟩
    · clear h0
      go_wp2_with fail
      obtain ⟨r0, r1, r2, r3⟩ := stored_whole f0 (.bool false) (.slice none 0 0)
      exact bodyPost_ret (v := .tuple #[.agg #[.bool false, .slice none 0 0], .int .i64 4]) (by simp [results, Tryz.results81, go_sem, r0, r1]) rfl
        ⟨none, [], 0, _, 0, rfl, by simp, norm_nil _, rfl, ⟨true, ds, _, _, HCUT.out, HP1.out, .inl ⟨by omega, rfl, rfl⟩⟩, Rd.nil, B1.trans (r3 _ (Nat.le_refl _))⟩
    · clear h0
      go_wp2_with fail
      obtain ⟨r0, r1, r2, r3⟩ := stored_whole f0 (.bool false) (.slice none 0 0)
      exact bodyPost_ret (v := .tuple #[.agg #[.bool false, .slice none 0 0], .int .i64 3]) (by simp [results, Tryz.results81, go_sem, r0, r1]) rfl
        ⟨none, [], 0, _, 0, rfl, by simp, norm_nil _, rfl, ⟨true, ds, _, _, HCUT.out, HP1.out, .inl ⟨by omega, rfl, rfl⟩⟩, Rd.nil, B1.trans (r3 _ (Nat.le_refl _))⟩
    · clear h0
      by_cases hx : xs.length = 0
      · obtain rfl : xs = [] := List.eq_nil_of_length_eq_zero hx
        go_wp2_with fail
        obtain ⟨r0, r1, r2, r3⟩ := stored_whole f0 (.bool false) (.slice none 0 0)
        exact bodyPost_ret (v := .tuple #[.agg #[.bool false, .slice none 0 0], .int .i64 3]) (by simp [results, Tryz.results81, go_sem, r0, r1]) rfl
          ⟨none, [], 0, _, 0, rfl, by simp, norm_nil _, rfl, ⟨true, ds, _, _, HCUT.out, HP1.out, .inr (.inl ⟨rfl, ⟨rfl, rfl⟩, rfl, rfl⟩)⟩, Rd.nil, B1.trans (r3 _ (Nat.le_refl _))⟩
      · have hpos : 0 < xs.length := by omega
        have HM := Lib.hid (show ¬ val 4294967296 xs = 0 from fun h0 => hx (by rw [(HN1.out.2.nil_iff (b := 4294967296) (by omega)).2 h0]; rfl))
        have HV := Lib.hid (show wv true xs = wv true xs from rfl)
        obtain ⟨N, hN⟩ : ∃ N, wv true xs = N := ⟨_, rfl⟩
        have HE := Lib.hid hN
        clear hN HV
        go_wp2_with fail
        refine (whole_own true xs A1 c1 N _ HN1.out HE.out).mono ?_
        rintro e w3 ⟨rfl, b3⟩
        have B3 := B1.trans (b3.mono B1.size)
        obtain ⟨g0, g1, g2, g3⟩ := new_whole w (b1.trans (b3.mono b1.size))
        clear f0 f1 f2 f3
        go_wp2_with fail
        obtain ⟨r0, r1, r2, r3⟩ := stored_whole g0 (.bool (decide (N < 0))) (.slice A1 xs.length c1)
        exact bodyPost_ret (v := .tuple #[.agg #[.bool (decide (N < 0)), .slice A1 xs.length c1], .int .i64 0]) (by simp [results, Tryz.results81, go_sem, r0, r1]) rfl
          ⟨A1, xs, c1, 0, N, rfl, hc1, HN1.out, abs_of HE.out, ⟨true, ds, _, _, HCUT.out, HP1.out, .inr (.inr ⟨rfl, fun hh => HM.out hh.2, rfl, by rw [← HE.out]; rfl⟩)⟩, (hr1.on b3).stored g0 _ _, B3.trans (r3 _ (Nat.le_refl _))⟩
end Go.Proofs.YtidbpkibjficnaaGreatDoor
