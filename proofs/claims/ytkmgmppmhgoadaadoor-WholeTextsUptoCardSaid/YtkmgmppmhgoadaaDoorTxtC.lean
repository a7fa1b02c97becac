/- What the program's own Parse answers. -/
import Derived.Test.YtkmgmppmhgoadaaDoorTxtB
namespace Go.Proofs.YtkmgmppmhgoadaaDoor
open Go.RowKit Num

theorem extract_data (t : ByteArray) (a b : Nat) : (t.extract a b).data.toList = (t.data.toList.drop a).take (b - a) := by
  rw [ByteArray.data_extract, Array.toList_extract]
theorem extract_size (t : ByteArray) {a b : Nat} (h : b ≤ t.size) : (t.extract a b).size = b - a := by
  rw [← data_size, extract_data, List.length_take, List.length_drop, data_size]; omega
theorem decVal_take_add (bs : List UInt8) (p k : Nat) (h : p + k ≤ bs.length) : decVal (bs.take (p + k)) = decVal (bs.take p) * 10 ^ k + decVal ((bs.drop p).take k) := by
  rw [List.take_add, decVal_append, List.length_take, List.length_drop, Nat.min_eq_left (by omega)]
/-- what a text is read as: a number and no error, or an error -/
def IsParse (bs : List UInt8) (N er : Nat) : Prop := (2000 < bs.length ∧ N = 0 ∧ er = 4) ∨ (bs.length ≤ 2000 ∧ ¬ IsDec bs ∧ N = 0 ∧ er = 3) ∨ (bs.length ≤ 2000 ∧ IsDec bs ∧ N = decVal bs ∧ er = 0)
theorem IsParse.unique {bs : List UInt8} {N M er fr : Nat} (h : IsParse bs N er) (k : IsParse bs M fr) : N = M ∧ er = fr := by
  rcases h with ⟨h1, h2, h3⟩ | ⟨h1, h4, h2, h3⟩ | ⟨h1, h4, h2, h3⟩ <;> rcases k with ⟨k1, k2, k3⟩ | ⟨k1, k4, k2, k3⟩ | ⟨k1, k4, k2, k3⟩
  all_goals first | (exfalso; omega) | exact absurd k4 h4 | exact absurd h4 k4 | exact ⟨by rw [h2, k2], by rw [h3, k3]⟩
/-- a number that a text is read as -/
def Parses (bs : List UInt8) (w : World) (e : Ending) (w' : World) : Prop :=
  ∃ A xs c er, e = .returned (.tuple #[.slice A xs.length c, .int .i64 (er : Nat)]) ∧ xs.length ≤ c ∧ Norm 4294967296 xs ∧ IsParse bs (val 4294967296 xs) er ∧ Rd w' (fun g => g < w'.heap.size) .u32 A xs ∧ Below w.heap.size w w'

set_option maxHeartbeats 1600000 in
theorem nat_Parse (t : ByteArray) (hsz : t.size ≤ 1048576) (w : World) :
    Calls Tryd.prog 59 #[.string t] w (Parses t.data.toList w) := by
  obtain ⟨bs, hbs⟩ : ∃ bs, t.data.toList = bs := ⟨_, rfl⟩
  have hlen : bs.length = t.size := by rw [← hbs]; exact data_size t
  have cd := nat_decimal t hsz w
  rw [hbs] at cd ⊢
  by_cases hbig : 2000 < t.size
  · have HP := Lib.hid (show IsParse bs 0 4 from .inl ⟨by omega, rfl, rfl⟩)
    clear cd hbs hlen
    go_enter Tryd.func59, Tryd.ntmps59
    go_wp2_with fail
    go_ret2
    exact ⟨none, [], 0, 4, rfl, by simp, norm_nil _, HP.out, Rd.nil, Below.refl _ _⟩
  · have HLEN := Lib.hid hlen
    have HBS := Lib.hid hbs
    clear hlen hbs
    go_enter Tryd.func59, Tryd.ntmps59
    go_wp2_with fail
    refine cd.mono ?_
    rintro e w1 ⟨d, rfl, hd, hb1⟩
    clear cd
    cases d with
    | false =>
      have HP := Lib.hid (show IsParse bs 0 3 from .inr (.inl ⟨by have := HLEN.out; omega, by simpa using hd, rfl, rfl⟩))
      clear hd
      go_wp2_with fail
      go_ret2
      exact ⟨none, [], 0, 3, rfl, by simp, norm_nil _, HP.out, Rd.nil, hb1⟩
    | true =>
      have HD := Lib.hid (show IsDec bs from hd.1 rfl)
      clear hd
      obtain ⟨f, hf⟩ : ∃ f, t.size % 9 = f := ⟨_, rfl⟩
      have hfI : (t.size : Int) % 9 = (f : Int) := by omega
      have hf9 : f < 9 := by omega
      have hft : f ≤ t.size := by omega
      have hfm : (t.size - f) % 9 = 0 := by omega
      have hfd : (t.extract 0 f).data.toList = bs.take f := by rw [extract_data, HBS.out, List.drop_zero, Nat.sub_zero]
      have hfs : (t.extract 0 f).size = f := by rw [extract_size _ hft, Nat.sub_zero]
      have cc := nat_chunk (t.extract 0 f) (by rw [hfs]; omega) (by rw [hfd]; exact HD.out.2.2.take f) w1
      have hVlt := decVal_lt (HD.out.2.2.take f)
      have hV9 : (10 : Nat) ^ (bs.take f).length ≤ 10 ^ 8 := Nat.pow_le_pow_right (by omega) (by rw [List.length_take]; omega)
      rw [hfd] at cc
      obtain ⟨V, hV⟩ : ∃ V, decVal (bs.take f) = V := ⟨_, rfl⟩
      rw [hV] at cc hVlt
      have hV32 : V < 4294967296 := by omega
      have HV := Lib.hid hV
      have hrd : (t.extract f t.size).data.toList = bs.drop f := by rw [extract_data, HBS.out, List.take_of_length_le (by rw [List.length_drop, HLEN.out]; omega)]
      have hrs : (t.extract f t.size).size = t.size - f := extract_size _ (Nat.le_refl _)
      have HF := Lib.hid hf
      have HRD := Lib.hid hrd
      have HRS := Lib.hid hrs
      clear hfd hfs hV hVlt hV9 hrd hrs hf
      have hs1 := hb1.size
      go_wp2_with fail
      refine cc.mono ?_
      rintro e w2 ⟨rfl, hb2⟩
      have B2 : Below w.heap.size w w2 := hb1.trans (hb2.mono hs1)
      have hs2 := B2.size
      have ct := nat_timesAnd (.slice none 0 0) [] w.heap.size 1000000000 V w2 (Own.nil _ _ _ _) hs2 (norm_nil _) (by omega) (by omega) hV32 (by simp)
      clear cc hb2
      go_wp2_with fail
      refine ct.mono ?_
      rintro e w3 ⟨v3, xs3, rfl, hown3, hn3, hv3, hl3, hb3⟩
      have B3 : Below w.heap.size w w3 := B2.trans hb3
      have HO3 := Lib.hid hown3
      have HV3 := Lib.hid hv3
      have HN3 := Lib.hid hn3
      clear ct hown3 hv3 hn3 hb3
      go_wp2_with fail
      go_loopg [0, 4] (t.size / 9) (fun gh sv out wr => ∃ (t' : ByteArray) (v : Value) (xs : List Nat) (pos : Nat), sv = .string t' ∧ out = v ∧ t'.size = 9 * gh ∧ pos + t'.size = t.size ∧ t'.data.toList = bs.drop pos ∧ Own wr w.heap.size 60 .u32 v xs ∧ Norm 4294967296 xs ∧ val 4294967296 xs = decVal (bs.take pos) ∧ xs.length ≤ pos + 1 ∧ Below w.heap.size w wr)
      case atStart =>
        refine ⟨t.extract f t.size, v3, xs3, f, ?_, rfl, by rw [HRS.out]; omega, by rw [HRS.out]; omega, HRD.out, HO3.out, HN3.out, by rw [HV3.out, HV.out]; simp [val], by simp at hl3; omega, B3⟩
        first | rfl | (congr 1; omega)
      case round =>
        obtain ⟨t', v, xs, pos, rfl, rfl, ht1, ht2, ht3, hown, hn, hv, hl, B⟩ := hrel
        have HOW := Lib.hid hown
        have HNN := Lib.hid hn
        have HVV := Lib.hid hv
        have HT3 := Lib.hid ht3
        have HT1 := Lib.hid ht1
        have HT2 := Lib.hid ht2
        clear hv ht3 ht1 ht2 B2 hs2 B3
        have hBs := B.size
        by_cases hz : t'.size = 0
        · obtain ⟨A, c, rfl, hc, -, hrd⟩ := hown.form
          have hpos : pos = t.size := by have := HT2.out; omega
          have HR := Lib.hid (show Rd wr (fun g => g < wr.heap.size) .u32 A xs from hrd.imp (fun b hb => hb.2))
          have HP := Lib.hid (show IsParse bs (val 4294967296 xs) 0 from .inr (.inr ⟨by have := HLEN.out; omega, HD.out, by rw [HVV.out, List.take_of_length_le (by rw [HLEN.out]; omega)], rfl⟩))
          clear hown hn hrd hpos
          go_wp2_with fail
          go_ret2
          exact ⟨A, xs, c, 0, rfl, hc, HNN.out, HP.out, HR.out, B⟩
        · have h9 : 9 ≤ t'.size := by have := HT1.out; omega
          have hfd : (t'.extract 0 9).data.toList = (bs.drop pos).take 9 := by rw [extract_data, HT3.out, List.drop_zero]
          have hfs : (t'.extract 0 9).size = 9 := by rw [extract_size _ h9]
          have hall := (HD.out.2.2.drop pos).take 9
          have cc := nat_chunk (t'.extract 0 9) (by omega) (by rw [hfd]; exact hall) wr
          have hVlt := decVal_lt hall
          have hV9 : (10 : Nat) ^ ((bs.drop pos).take 9).length ≤ 10 ^ 9 := Nat.pow_le_pow_right (by omega) (by rw [List.length_take]; omega)
          rw [hfd] at cc
          have hadd := decVal_take_add bs pos 9 (by have := HLEN.out; have := HT2.out; omega)
          obtain ⟨V', hV'⟩ : ∃ V', decVal ((bs.drop pos).take 9) = V' := ⟨_, rfl⟩
          rw [hV'] at cc hVlt hadd
          have hV32 : V' < 4294967296 := by omega
          have hrd : (t'.extract 9 t'.size).data.toList = bs.drop (pos + 9) := by rw [extract_data, HT3.out, List.drop_drop, List.take_of_length_le (by rw [List.length_drop, HLEN.out]; have := HT2.out; omega)]
          have hrs : (t'.extract 9 t'.size).size = t'.size - 9 := extract_size _ (Nat.le_refl _)
          have HRD' := Lib.hid hrd
          have HRS' := Lib.hid hrs
          have HADD := Lib.hid hadd
          have hxl : xs.length ≤ 2001 := by have := HT2.out; omega
          clear hfd hfs hV' hVlt hV9 hrd hrs hall hadd hown
          go_wp2_with fail
          refine cc.mono ?_
          rintro e w5 ⟨rfl, hb5⟩
          have B5 : Below w.heap.size w w5 := B.trans (hb5.mono hBs)
          have hs5 := B5.size
          have ct := nat_timesAnd _ xs w.heap.size 1000000000 V' w5 (HOW.out.below hb5 (Nat.le_refl _)) hs5 hn (by omega) (by omega) hV32 (by omega)
          clear cc hb5
          go_wp2_with fail
          refine ct.mono ?_
          rintro e w6 ⟨v6, xs6, rfl, hown6, hn6, hv6, hl6, hb6⟩
          have B6 : Below w.heap.size w w6 := B5.trans hb6
          have HO6 := Lib.hid hown6
          have HV6 := Lib.hid hv6
          have HN6 := Lib.hid hn6
          clear ct hown6 hv6 hn6 hb6 hn
          go_wp2_with fail
          go_roundg (gk - 1)
          case measure => have := HT1.out; omega
          case rel =>
            refine ⟨t'.extract 9 t'.size, v6, xs6, pos + 9, rfl, rfl, by have := HT1.out; rw [HRS'.out]; omega, by have := HT2.out; rw [HRS'.out]; omega, HRD'.out, HO6.out, HN6.out, ?_, by omega, B6⟩
            rw [HV6.out, HADD.out, HVV.out]
set_option maxHeartbeats 1600000 in
/-- a text of any length -/
theorem nat_Parse_any (t : ByteArray) (hsz : t.size ≤ 20971521) (w : World) :
    Calls Tryd.prog 59 #[.string t] w (Parses t.data.toList w) := by
  by_cases hbig : 2000 < t.size
  · have HP := Lib.hid (show IsParse t.data.toList 0 4 from .inl ⟨by rw [data_size]; omega, rfl, rfl⟩)
    go_enter Tryd.func59, Tryd.ntmps59
    go_wp2_with fail
    go_ret2
    exact ⟨none, [], 0, 4, rfl, by simp, norm_nil _, HP.out, Rd.nil, Below.refl _ _⟩
  · exact nat_Parse t (by omega) w

end Go.Proofs.YtkmgmppmhgoadaaDoor
