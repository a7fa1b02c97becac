/- What the document's own Text answers. -/
import Derived.Test.YtchfbpgbojnakaaDoorZTxtX
import Derived.Test.YtchfbpgbojnakaaDoorZTxtD
import Derived.Test.YtchfbpgbojnakaaDoorZRefY
import Derived.Lib.ItoaMem
namespace Go.Proofs.YtchfbpgbojnakaaDoor
open Go.RowKit Num

theorem byte_text (w : World) (d : Nat) (hd : d < 10) (v : Int) (hv : v = 48 + (d : Int)) : (convert 25 9 (.slice (some ⟨w.heap.size, 0, none⟩) 1 1)).run Tryd.prog (w.alloc (.cells #[.int .u8 v] 5)) = .ok (.string ⟨[UInt8.ofNat (48 + d)].toArray⟩) (w.alloc (.cells #[.int .u8 v] 5)) := by
  subst hv
  refine run_convert_bytes_back (P := Tryd.prog) (w.alloc (.cells #[.int .u8 (48 + (d : Int))] 5)) 25 9 5 ⟨w.heap.size, 0, none⟩ 1 [UInt8.ofNat (48 + d)] Tryd.underlying25 Tryd.underlying5 Tryd.underlying9 (fun j hj => ?_)
  obtain rfl : j = 0 := by simp at hj; omega
  rw [add_mk, Nat.zero_add, cell_of_row _ w.heap.size 0 _ _ (0, 0) (heap_alloc_new w _)]
  simp only [List.getElem_cons_zero, dec_digit hd]
  simp

theorem app_data (b : UInt8) (t : ByteArray) : ((⟨#[b]⟩ : ByteArray) ++ t).data.toList = b :: t.data.toList := by
  rw [ByteArray.data_append, Array.toList_append]; rfl
theorem app_text {b : UInt8} {t : ByteArray} {l : List UInt8} (h : l = b :: t.data.toList) : ((⟨#[b]⟩ : ByteArray) ++ t) = ⟨l.toArray⟩ := by
  apply ByteArray.ext
  rw [ByteArray.data_append, h]
  apply Array.ext'
  simp

set_option maxRecDepth 100000 in
set_option maxHeartbeats 3200000 in
theorem ref_Text (a : List Nat) (A : Option Addr) (ca : Nat) (w : World) (h : Rd w (fun g => g < w.heap.size) .u32 A a) (hl : a.length ≤ 2097152) (ha : Dg 4294967296 a) :
    Calls Tryd.prog 42 #[.slice A a.length ca] w fun e w' => e = .returned (.string ⟨(Lib.decDigits (val 4294967296 a)).toArray⟩) ∧ Below w.heap.size w w' := by
  obtain ⟨N, hN⟩ : ∃ N, val 4294967296 a = N := ⟨_, rfl⟩
  have HN := Lib.hid hN
  have HDL := Lib.hid (dec_len_words (val_lt ha))
  rw [hN]
  clear hN
  go_enter Tryd.func42, Tryd.ntmps42
  go_wp2_with fail
  go_loopg [0, 3] N (fun gh av sv wr => ∃ (A : Option Addr) (xs : List Nat) (c : Nat) (t : ByteArray), av = .slice A xs.length c ∧ sv = .string t ∧ val 4294967296 xs = gh ∧ Lib.decDigits N = Lib.decDigits gh ++ t.data.toList ∧ Dg 4294967296 xs ∧ xs.length ≤ 134217728 ∧ Rd wr (fun g => g < wr.heap.size) .u32 A xs ∧ Below w.heap.size w wr)
  case atStart => exact ⟨A, a, ca, _, rfl, rfl, HN.out, by simp, ha, by omega, h, Below.refl _ _⟩
  case round =>
    obtain ⟨A, xs, c, t, rfl, rfl, hv, hdec, hd, hxl, hr, B⟩ := hrel
    have hts : t.size ≤ 20971521 := by
      have h1 := HDL.out
      rw [HN.out, hdec, List.length_append, data_size] at h1
      omega
    have HV := Lib.hid hv
    have HDEC := Lib.hid hdec
    clear hv hdec
    have hBs := B.size
    have cD : ∀ (W : World) (g : Nat), Below wr.heap.size wr W → Row W g 80 .u32 [10] → Calls Tryd.prog 55 #[.slice A xs.length c, .slice (some ⟨g, 0, none⟩) 1 1] W (GivesQR .u32 4294967296 gk 10 W) := fun W g hW hR => by
      have := ref_Div xs [10] A (some ⟨g, 0, none⟩) c 1 _ _ W (hr.below hW (fun g hg => hg)) (hR.rd_all (S := fun b => b < W.heap.size) hR.lt) (fun g hg => by have := hW.size; omega) (fun g hg => hg) (by omega) (by simp) hd (by simp [Dg])
      rw [HV.out] at this
      simpa [val] using this
    have cd := cD _ _ ((Below.refl _ _).alloc (Nat.le_refl _) _) (row_ten wr 80)
    clear cD
    go_wp2_with fail
    refine cd.mono ?_
    rintro e w5 ⟨A5, q, c5, A6, r, c6, rfl, hcq, hcr, hnq, hnr, hvq, hvr, hrq, hrr, hb5⟩
    have X5 : Below wr.heap.size wr w5 := ((Below.refl _ _).alloc (Nat.le_refl _) _).trans (hb5.mono (by simp))
    have B5 : Below w.heap.size w w5 := B.trans (X5.mono hBs)
    have hB5 := B5.size
    rw [if_neg (by omega)] at hvr
    obtain ⟨d, hd10⟩ : ∃ d, gk % 10 = d := ⟨_, rfl⟩
    have hdlt : d < 10 := by omega
    rw [hd10] at hvr
    have hql : q.length ≤ xs.length := len_le (b := 4294967296) (by omega) hnq.2 hd (by rw [hvq, HV.out]; exact Nat.div_le_self _ _)
    have hrl : r.length ≤ 1 := hnr.2.length_le (b := 4294967296) (n := 1) (by omega) (by rw [hvr]; omega)
    have HD10 := Lib.hid hd10
    have HNQ := Lib.hid hnq
    have HVQ := Lib.hid hvq
    have hw8 : IntKind.u8.wrap (d : Int) = (d : Int) := IntWalk.u8_in _ (by omega)
    have hw8' : IntKind.u8.wrap (48 + (d : Int)) = 48 + (d : Int) := IntWalk.u8_in _ (by omega)
    obtain ⟨bt, hbt⟩ : ∃ bt, UInt8.ofNat (48 + d) = bt := ⟨_, rfl⟩
    have hcv0 := fun v hv => byte_text w5 d hdlt v hv
    simp only [hbt] at hcv0
    have HSTOP : Hid (q.length = 0 → ((⟨#[bt]⟩ : ByteArray) ++ t) = ⟨(Lib.decDigits N).toArray⟩) := Lib.hid fun h0 => by
      have hq0 : q = [] := List.eq_nil_of_length_eq_zero h0
      rw [hq0] at hvq
      have h10 : gk < 10 := by have : (0 : Nat) = gk / 10 := hvq; omega
      refine app_text ?_
      rw [HDEC.out, dec_small h10, hd10, hbt]; rfl
    have HGO : Hid (¬ q.length = 0 → gk / 10 < gk ∧ Lib.decDigits N = Lib.decDigits (gk / 10) ++ ((⟨#[bt]⟩ : ByteArray) ++ t).data.toList) := Lib.hid fun h0 => by
      have h10 : ¬ gk < 10 := by
        intro hlt
        refine h0 ?_
        have : val 4294967296 q = 0 := by rw [hvq]; exact Nat.div_eq_of_lt hlt
        rw [(hnq.2.nil_iff (b := 4294967296) (by omega)).2 this]; rfl
      refine ⟨by omega, ?_⟩
      rw [HDEC.out, dec_big h10, hd10, hbt, app_data, List.append_assoc]; rfl
    clear hd10 hnq hvq cd hb5 X5 hbt
    by_cases hr0 : r.length = 0
    · obtain rfl : r = [] := List.eq_nil_of_length_eq_zero hr0
      have hd0 : d = 0 := hvr.symm
      subst hd0
      have hcv := hcv0 48 (by simp)
      clear hcv0
      by_cases hq0 : q.length = 0
      · go_wp2_with fail
        go_ret
        exact ⟨by rw [← HSTOP.out hq0]; rfl, B5.alloc hB5 _⟩
      · obtain ⟨h1, h2⟩ := HGO.out hq0
        have HH := Lib.hid h2
        clear h2
        go_wp2_with fail
        go_roundg (gk / 10)
        case measure => exact h1
        case rel => exact ⟨A5, q, c5, _, rfl, rfl, HVQ.out, HH.out, HNQ.out.1, by omega, rd_alloc hrq _, B5.alloc hB5 _⟩
    · obtain ⟨p, rfl⟩ : ∃ p, r = [p] := List.length_eq_one_iff.1 (by omega)
      obtain rfl : p = d := by simpa [val] using hvr
      obtain ⟨b6, o6, rfl, _, hcell⟩ := hrr.at_ (j := 0) (by simp)
      simp only [List.getElem_cons_zero, Nat.add_zero] at hcell
      have hcv := hcv0 (48 + (p : Int)) rfl
      clear hcv0
      by_cases hq0 : q.length = 0
      · go_wp2_with fail
        go_ret
        exact ⟨by rw [← HSTOP.out hq0]; rfl, B5.alloc hB5 _⟩
      · obtain ⟨h1, h2⟩ := HGO.out hq0
        have HH := Lib.hid h2
        clear h2
        go_wp2_with fail
        go_roundg (gk / 10)
        case measure => exact h1
        case rel => exact ⟨A5, q, c5, _, rfl, rfl, HVQ.out, HH.out, HNQ.out.1, by omega, rd_alloc hrq _, B5.alloc hB5 _⟩
end Go.Proofs.YtchfbpgbojnakaaDoor
