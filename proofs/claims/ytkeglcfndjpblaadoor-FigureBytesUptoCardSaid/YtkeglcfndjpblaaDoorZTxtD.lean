/- What the document's own Parse answers. -/
import Derived.Test.YtkeglcfndjpblaaDoorZTxtX
import Derived.Test.YtkeglcfndjpblaaDoorZRefY
import Derived.Test.YtkeglcfndjpblaaDoorZRefX
import Derived.Deep.RegionHeld3
import Derived.Deep.RegionWith
import Derived.Deep.CutRange
namespace Go.Proofs.YtkeglcfndjpblaaDoor
open Go.RowKit Num

theorem row_ten (w : World) (t : TypeId) : Row (w.alloc (.cells #[.int .u32 10] t)) w.heap.size t .u32 [10] := Row.new w t .u32 [10]
theorem row_one (w : World) (t : TypeId) (n : Nat) : Row (w.alloc (.cells #[.int .u32 (n : Int)] t)) w.heap.size t .u32 [n] := Row.new w t .u32 [n]
theorem row_ten_at (w : World) (t : TypeId) {g : Nat} (hg : g = w.heap.size) : Row (w.alloc (.cells #[.int .u32 10] t)) g t .u32 [10] := by rw [hg]; exact row_ten w t
theorem row_one_at (w : World) (t : TypeId) (n : Nat) {g : Nat} (hg : g = w.heap.size) : Row (w.alloc (.cells #[.int .u32 (n : Int)] t)) g t .u32 [n] := by rw [hg]; exact row_one w t n
theorem rd_alloc {w : World} {k : IntKind} {A : Option Addr} {xs : List Nat} (h : Rd w (fun g => g < w.heap.size) k A xs) (o : Obj) : Rd (w.alloc o) (fun g => g < (w.alloc o).heap.size) k A xs :=
  (h.keep fun p hp => World.cell?_alloc_lt w o p hp).imp (fun g hg => by simp; omega)
theorem len_ten {xs ys : List Nat} (hx : Dg 4294967296 xs) (hy : Norm 4294967296 ys) (h : val 4294967296 ys = val 4294967296 xs * 10) : ys.length ≤ xs.length + 1 := by
  have := len_mul (b := 4294967296) (by omega) hy.2 hx (y := [10]) (by simp [Dg]) (by rw [h]; simp [val])
  simpa using this
theorem len_pos_dec {bs : List UInt8} {ys : List Nat} {pos : Nat} (hy : Norm 4294967296 ys) (h : val 4294967296 ys = decVal (bs.take pos)) (hall : AllDec (bs.take pos)) : ys.length ≤ pos + 1 := by
  refine Nat.le_trans (hy.2.length_le (b := 4294967296) (n := pos) (by omega) ?_) (Nat.le_succ _)
  rw [h]
  refine Nat.lt_of_lt_of_le (decVal_lt hall) (Nat.le_trans (Nat.pow_le_pow_right (by omega) (show (bs.take pos).length ≤ pos by rw [List.length_take]; omega)) (Nat.pow_le_pow_left (by omega) _))
theorem row_drew {w : World} {g : Nat} {t : TypeId} {k : IntKind} {cs : List Nat} (h : Row w g t k cs) : Row w.drew g t k cs := h

set_option maxHeartbeats 3200000 in
theorem ref_Parse (t : ByteArray) (hsz : t.size ≤ 1048576) (w : World) :
    Calls Tryd.prog 32 #[.string t] w (Parses t.data.toList w) := by
  obtain ⟨bs, hbs⟩ : ∃ bs, t.data.toList = bs := ⟨_, rfl⟩
  have hlen : bs.length = t.size := by rw [← hbs]; exact data_size t
  have hget : ∀ j (h : j < t.size), ∃ h' : j < bs.length, bs[j]'h' = t[j] := fun j h => ⟨by rw [hlen]; exact h, by subst hbs; exact data_get t h⟩
  have htl : t.toList = bs := by rw [ByteArray.toList_eq]; exact hbs
  rw [hbs]
  clear hbs
  by_cases hbig : 2000 < t.size
  · have HP := Lib.hid (show IsParse bs 0 4 from .inl ⟨by omega, rfl, rfl⟩)
    clear hget hlen htl
    go_enter Tryd.func32, Tryd.ntmps32
    go_wp2_with fail
    go_ret2
    exact ⟨none, [], 0, 4, rfl, by simp, norm_nil _, HP.out, Rd.nil, Below.refl _ _⟩
  · have hle : t.size ≤ 2000 := by omega
    by_cases h0 : t.size = 0
    · have hnil : bs = [] := List.eq_nil_of_length_eq_zero (by omega)
      have HP := Lib.hid (show IsParse bs 0 3 from .inr (.inl ⟨by omega, fun h => h.1 hnil, rfl, rfl⟩))
      have hE : t.toList.isEmpty = true := by rw [htl, hnil]; rfl
      have hE2 : t.toList = [] := by rw [htl, hnil]
      clear htl hlen hget hnil
      go_enter Tryd.func32, Tryd.ntmps32
      go_wp2_with fail
      go_ret2
      exact ⟨none, [], 0, 3, rfl, by simp, norm_nil _, HP.out, Rd.nil, Below.refl _ _⟩
    · have h1 : 0 < t.size := by omega
      have hE : t.toList.isEmpty = false := by
        rw [htl]
        cases bs with
        | nil => simp at hlen; omega
        | cons c cs => rfl
      have hE2 : ¬ t.toList = [] := by
        rw [htl]; rintro rfl; simp at hlen; omega
      have hhead : bs.head? = some t[0] := by
        obtain ⟨h2, h3⟩ := hget 0 h1
        rw [← h3]
        cases bs with
        | nil => simp at h2
        | cons c cs => rfl
      obtain ⟨n, hn⟩ : ∃ n, (t[0]'h1).toNat = n := ⟨_, rfl⟩
      have hn48 : n = 48 → bs.head? = some 48 := fun e => by
        rw [hhead]
        congr 1
        exact UInt8.toNat_inj.1 (by rw [hn, e]; rfl)
      have hne : bs ≠ [] := fun e => by rw [e] at hlen; simp at hlen; omega
      by_cases hz : n = 48 ∧ 1 < t.size
      · obtain ⟨rfl, hz1⟩ := hz
        have HP := Lib.hid (show IsParse bs 0 3 from .inr (.inl ⟨by omega, fun h => h.2.1 ⟨by omega, hn48 rfl⟩, rfl, rfl⟩))
        clear htl hlen hget hhead hn48 hne
        go_enter Tryd.func32, Tryd.ntmps32
        go_wp2_with fail
        go_ret2
        exact ⟨none, [], 0, 3, rfl, by simp, norm_nil _, HP.out, Rd.nil, Below.refl _ _⟩
      · have hnz : ¬ (1 < bs.length ∧ bs.head? = some 48) := fun h => hz ⟨by
          have h2 := h.2
          rw [hhead] at h2
          rw [← hn, Option.some.inj h2]; rfl, by omega⟩
        have HNE := Lib.hid hne
        have HNZ := Lib.hid hnz
        have HGET := Lib.hid hget
        have HLEN := Lib.hid hlen
        have hcase : (n = 48 ∧ t.size = 1) ∨ ¬ n = 48 := by omega
        clear htl hne hnz hget hlen hhead hn48 hz
        rcases hcase with ⟨hn1, hn2⟩ | hn1
        all_goals
          have HC := Lib.hid hn1
          go_enter Tryd.func32, Tryd.ntmps32
          go_wp2_with fail
          go_loopg [4, 5] t.size (fun gh a i wr => ∃ (pos : Nat) (A : Option Addr) (xs : List Nat) (c : Nat), gh + pos = t.size ∧ i = .int .i64 pos ∧ a = .slice A xs.length c ∧ xs.length ≤ c ∧ Norm 4294967296 xs ∧ val 4294967296 xs = decVal (bs.take pos) ∧ xs.length ≤ pos + 1 ∧ AllDec (bs.take pos) ∧ Rd wr (fun g => g < wr.heap.size) .u32 A xs ∧ Below w.heap.size w wr)
          case atStart => exact ⟨0, none, [], 0, by omega, rfl, rfl, by simp, norm_nil _, rfl, by simp, by simp [AllDec], Rd.nil, Below.refl _ _⟩
          case round =>
            obtain ⟨pos, A, xs, c, hg, rfl, rfl, hc, hxn, hv, hl, hall, hr, B⟩ := hrel
            have HG := Lib.hid hg
            have HV := Lib.hid hv
            have HXN := Lib.hid hxn
            have HALL := Lib.hid hall
            clear hg hv hxn hall
            by_cases hp : pos < t.size
            · obtain ⟨hpl, hgp⟩ := HGET.out pos hp
              have hnd : ¬ (48 ≤ (t[pos]'hp).toNat ∧ (t[pos]'hp).toNat ≤ 57) → IsParse bs 0 3 := fun h => .inr (.inl ⟨by have := HLEN.out; omega, not_dec_of (j := pos) hpl (by rw [hgp]; exact h), rfl, rfl⟩)
              have hnext : (48 ≤ (t[pos]'hp).toNat ∧ (t[pos]'hp).toNat ≤ 57) → AllDec (bs.take (pos + 1)) := fun h => all_take_succ HALL.out hpl (by rw [hgp]; exact h)
              have hstep := decVal_take_succ hpl
              rw [hgp] at hstep
              obtain ⟨m, hm⟩ : ∃ m, (t[pos]'hp).toNat = m := ⟨_, rfl⟩
              rw [hm] at hnd hnext hstep
              clear hgp
              by_cases hlo : m < 48
              · have HP := Lib.hid (hnd (by omega))
                clear hnd hnext hstep
                go_wp2_with fail
                go_ret2
                exact ⟨none, [], 0, 3, rfl, by simp, norm_nil _, HP.out, Rd.nil, B⟩
              · by_cases hhi : 57 < m
                · have HP := Lib.hid (hnd (by omega))
                  clear hnd hnext hstep
                  go_wp2_with fail
                  go_ret2
                  exact ⟨none, [], 0, 3, rfl, by simp, norm_nil _, HP.out, Rd.nil, B⟩
                · have HA := Lib.hid (hnext (by omega))
                  have HS := Lib.hid hstep
                  clear hnd hnext hstep
                  have hm256 : m < 256 := by rw [← hm]; exact UInt8.toNat_lt _
                  obtain ⟨d, rfl⟩ : ∃ d, m = d + 48 := ⟨m - 48, by omega⟩
                  have hw8 : IntKind.u8.wrap ((d : Int) + 48 - 48) = (d : Int) := by rw [IntWalk.u8_in _ (by omega)]; omega
                  have hw8' : IntKind.u8.wrap (d : Int) = (d : Int) := IntWalk.u8_in _ (by omega)
                  have hw32 : IntKind.u32.wrap (d : Int) = (d : Int) := IntWalk.u32_in _ (by omega)
                  rw [Nat.add_sub_cancel] at HS
                  have hrs := hr
                  have hB := B.size
                  have cM : ∀ (W : World) (g : Nat), Below wr.heap.size wr W → Row W g 72 .u32 [10] → Calls Tryd.prog 46 #[.slice A xs.length c, .slice (some ⟨g, 0, none⟩) 1 1] W (Gives .u32 4294967296 (val 4294967296 xs * 10) W) := fun W g hW hR => by
                    have := ref_Mul xs [10] A (some ⟨g, 0, none⟩) c 1 _ _ W (hr.below hW (fun g hg => hg)) (hR.rd_all (S := fun b => b < W.heap.size) hR.lt) (fun g hg => by have := hW.size; omega) (fun g hg => hg) (by omega) (by simp) HXN.out.1 (by simp [Dg])
                    simpa [val] using this
                  have cA : ∀ (W : World) (g : Nat) (A' : Option Addr) (ys : List Nat) (c' : Nat), ys.length ≤ 4194304 → Norm 4294967296 ys → Rd W (fun b => b < W.heap.size) .u32 A' ys → Row W g 72 .u32 [d] → Calls Tryd.prog 38 #[.slice A' ys.length c', .slice (some ⟨g, 0, none⟩) 1 1] W (Gives .u32 4294967296 (val 4294967296 ys + d) W) := fun W g A' ys c' hy hn hR hR' => by
                    have := ref_add ys [d] A' (some ⟨g, 0, none⟩) c' 1 _ _ W hR (hR'.rd_all (S := fun b => b < W.heap.size) hR'.lt) (fun g hg => hg) (fun g hg => hg) (by omega) (by simp) hn.1 (by simp [Dg]; omega)
                    simpa [val] using this
                  go_wp2_with fail
                  go_region_held3 (fun _ => True) (trivial) ((first
                    | (go_at_call 46; (with_reducible refine Calls.mono (cM _ _ ?_ ?_) ?_) <;> first
                        | exact ((Below.refl _ _).alloc (Nat.le_refl _) _).drew
                        | exact (((Below.refl _ _).alloc (Nat.le_refl _) _).alloc (by simp) _).drew
                        | exact row_drew (row_ten _ _)
                        | exact row_drew ((row_ten _ _).alloc _)
                        | exact row_drew (row_ten_at _ _ (by simp))
                        | (rintro e w5 ⟨A5, y5, c5, rfl, hc5, hn5, hv5, hr5, hb5⟩
                           have X5 : Below wr.heap.size wr w5 := by
                             first
                               | exact (((Below.refl _ _).alloc (Nat.le_refl _) _).drew).trans (hb5.mono (by simp))
                               | exact ((((Below.refl _ _).alloc (Nat.le_refl _) _).alloc (by simp) _).drew).trans (hb5.mono (by simp; omega))))
                    | (go_at_call 38; (with_reducible refine Calls.mono (cA _ _ _ _ _ ?_ ?_ ?_ ?_) ?_) <;> first
                        | exact Nat.le_trans (len_ten HXN.out.1 hn5 hv5) (by omega)
                        | exact hn5
                        | exact rd_alloc hr5 _
                        | exact hr5
                        | exact row_one _ _ _
                        | exact (row_drew (row_one_at _ _ _ (by simp))).below hb5 (by simp)
                        | exact (row_drew ((row_one _ _ _).alloc _)).below hb5 (by simp; omega)
                        | (rintro e w6 ⟨A6, y6, c6, rfl, hc6, hn6, hv6, hr6, hb6⟩
                           have X6 : Below wr.heap.size wr w6 := by
                             first
                               | exact X5.trans ((((Below.refl _ _).alloc (Nat.le_refl _) _).trans (hb6.mono (by simp))).mono X5.size)
                               | exact X5.trans (hb6.mono X5.size)))))
                  all_goals
                    have HN6 := Lib.hid hn6
                    have HV6 := Lib.hid (hv6.trans (by rw [hv5]))
                    clear hw8 hw8' hw32 hv5 hv6 hn5 hn6 cA cM
                    go_wp2_with fail
                    go_roundg (gk - 1)
                    case measure => have := HG.out; omega
                    case rel =>
                      refine ⟨pos + 1, A6, y6, c6, by have := HG.out; omega, by go_num, rfl, hc6, HN6.out, by rw [HV6.out, HV.out, HS.out], ?_, HA.out, hr6, B.trans (X6.mono hB)⟩
                      exact len_pos_dec HN6.out (by rw [HV6.out, HV.out, HS.out]) HA.out
            · have HP := Lib.hid (show IsParse bs (val 4294967296 xs) 0 from .inr (.inr ⟨by have := HLEN.out; omega, ⟨HNE.out, HNZ.out, by have := HALL.out; rwa [List.take_of_length_le (by rw [HLEN.out]; omega)] at this⟩, by rw [HV.out, List.take_of_length_le (by rw [HLEN.out]; omega)], rfl⟩))
              go_wp2_with fail
              go_ret2
              exact ⟨A, xs, c, 0, rfl, hc, HXN.out, HP.out, hr, B⟩
end Go.Proofs.YtkeglcfndjpblaaDoor
