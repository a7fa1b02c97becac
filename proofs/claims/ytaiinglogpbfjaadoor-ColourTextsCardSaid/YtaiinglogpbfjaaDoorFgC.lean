/- Bytes in figures: the document's own, back. -/
import Derived.Test.YtaiinglogpbfjaaDoorFgB
import Derived.Test.YtaiinglogpbfjaaDoorLxA
import Derived.BigQuiet
namespace Go.Proofs.YtaiinglogpbfjaaDoor
open Go.RowKit

theorem fig_hi (W : World) (m : Nat) (h : m < 256) : Calls Tryd.prog 18 #[.int .i64 ((m : Int) / 16)] W fun e w' => e = .returned (.int .u8 ((fig (m / 16)).toNat : Int)) ∧ W = w' := by
  have := fig_at W (m / 16) (by omega)
  rw [show ((m / 16 : Nat) : Int) = (m : Int) / 16 by omega] at this
  exact this.mono fun _ _ hh => ⟨hh.1, hh.2.symm⟩
theorem fig_lo (W : World) (m : Nat) : Calls Tryd.prog 18 #[.int .i64 ((m : Int) % 16)] W fun e w' => e = .returned (.int .u8 ((fig (m % 16)).toNat : Int)) ∧ W = w' := by
  have := fig_at W (m % 16) (by omega)
  rw [show ((m % 16 : Nat) : Int) = (m : Int) % 16 by omega] at this
  exact this.mono fun _ _ hh => ⟨hh.1, hh.2.symm⟩
theorem below_figN {B : Nat} {a w : World} (h : Below B a w) (q : Nat) : Below B a (w.drewN q) := ⟨h.os, h.tape, h.output, h.size, h.block⟩
theorem below_app {w W w3 : World} {n : Nat} {v : Value} {xs : List Value} (hB : Below w.heap.size w W) (ho : W.ownsRow w.heap.size 5 1 v n xs) (a : Value) (hg : (W.alloc (.cells #[a] 5)).grownBy w3 v.ownBlock) : Below w.heap.size w w3 := by
  have h1 : Below w.heap.size w (W.alloc (.cells #[a] 5)) := hB.alloc hB.size _
  exact h1.grown hg (by have := hB.size; simp; omega) (fun k e => (ho.lt k e).1)
theorem none_more {A : Prop} {B : UInt8 → Prop} {C : UInt8 → Prop} {D : UInt8 → Prop} {f : Prop} {m : Nat} {x y : UInt8} (h : (f ∧ A ∧ ∀ k, k < m → ¬ (fig (k / 16) = x ∧ fig (k % 16) = y)) ∨ (∃ u : UInt8, B u ∧ C u ∧ D u ∧ u.toNat < m)) (hn : ¬ (fig (m / 16) = x ∧ fig (m % 16) = y)) :
    (f ∧ A ∧ ∀ k, k < m + 1 → ¬ (fig (k / 16) = x ∧ fig (k % 16) = y)) ∨ (∃ u : UInt8, B u ∧ C u ∧ D u ∧ u.toNat < m + 1) := by
  rcases h with ⟨h1, h2, h3⟩ | ⟨u, h1, h2, h3, h4⟩
  · refine .inl ⟨h1, h2, fun k hk => ?_⟩
    by_cases e : k = m
    · subst e; exact hn
    · exact h3 k (by omega)
  · exact .inr ⟨u, h1, h2, h3, by omega⟩
theorem byteOf_no {x y : UInt8} (h : ∀ k, k < 256 → ¬ (fig (k / 16) = x ∧ fig (k % 16) = y)) : byteOf x y = none := by
  unfold byteOf
  rw [Option.map_eq_none_iff, List.find?_eq_none]
  intro k hk
  have := h k (List.mem_range.1 hk)
  simpa using this
theorem unhex_fail {bs b : By} {i : Nat} {x y : UInt8} {r : By} (hs : bs = hexOf b ++ bs.drop i) (hp : bs.drop i = x :: y :: r) (hn : byteOf x y = none) : unhexOf bs = none := by
  rw [unhexOf_at hs, hp]
  unfold unhexOf
  rw [hn]
  rfl
theorem unhex_next {bs b : By} {i : Nat} {x y u : UInt8} (hs : bs = hexOf b ++ bs.drop i) (hp : bs.drop i = x :: y :: bs.drop (i + 1 + 1)) (hn : byteOf x y = some u) (_hi : i = 2 * b.length) : bs = hexOf (b ++ [u]) ++ bs.drop (i + 2) := by
  obtain ⟨h1, h2⟩ := byteOf_some hn
  rw [hexOf_snoc, h1, h2, List.append_assoc]
  exact hs.trans (by rw [hp]; rfl)
theorem quiet_at {P : Program} {f : FuncId} {args : Array Value} {w : World} {n : Nat} {v : Value} (h : Calls P f args (w.drewN n) fun e w' => e = .returned v ∧ w.drewN n = w') :
    Calls P f args (w.drewN n) fun e w' => e = .returned v ∧ ∃ k, w' = w.drewN k := h.mono fun _ _ hh => ⟨hh.1, n, hh.2.symm⟩
theorem fig_same {a b : UInt8} : (a.toNat = b.toNat) ↔ a = b := ⟨fun h => UInt8.toNat_inj.1 h, fun h => by rw [h]⟩

set_option maxRecDepth 10000 in
set_option maxHeartbeats 1600000 in
theorem ref7_UnhexO (t : ByteArray) (hsz : t.size ≤ 140737488355328) (w : World) :
    Calls Tryd.prog 11 #[.string t] w fun e w' => Below w.heap.size w w' ∧
      ((∃ (b : By) (p : Option Addr) (cap : Nat), unhexOf t.data.toList = some b ∧ e = .returned (.tuple #[.slice p b.length cap, .int .i64 0]) ∧ RdV w' w'.heap.size p (bcells b) ∧ ∀ a, p = some a → w.heap.size ≤ a.block) ∨
        (unhexOf t.data.toList = none ∧ e = .returned (.tuple #[.slice none 0 0, .int .i64 3]))) := by
  obtain ⟨bs, hbs⟩ : ∃ bs, t.data.toList = bs := ⟨_, rfl⟩
  have hlen : bs.length = t.size := by rw [← hbs]; exact str_len t
  have hget : ∀ j (h : j < t.size), ∃ h' : j < bs.length, bs[j]'h' = t[j] := fun j h => ⟨by rw [hlen]; exact h, by subst hbs; exact str_get t j h⟩
  rw [hbs]
  clear hbs
  obtain ⟨i0, hi, hz0, hz1, hz2⟩ := info_parts info_by
  by_cases hodd : t.size % 2 = 1
  · have HU := Lib.hid (unhexOf_odd (s := bs) (by rw [hlen]; exact hodd))
    have hz : (t.size : Int).tmod 2 = 1 := by rw [Int.tmod_eq_emod_of_nonneg (by omega)]; omega
    clear hget hlen
    go_enter Tryd.func11, Tryd.ntmps11
    go_wp2_with fail
    go_ret2
    exact ⟨Below.refl _ _, .inr ⟨HU.out, rfl⟩⟩
  · have hz : (t.size : Int).tmod 2 = 0 := by rw [Int.tmod_eq_emod_of_nonneg (by omega)]; omega
    have HGET := Lib.hid hget
    have HLEN := Lib.hid hlen
    clear hget hlen
    go_enter Tryd.func11, Tryd.ntmps11
    go_wp2_with fail
    go_loopg [4, 5] t.size (fun gh v it wr => ∃ (b : By) (i : Nat), it = .int .i64 (i : Int) ∧ i = 2 * b.length ∧ gh + i = t.size ∧ wr.ownsRow w.heap.size 5 1 v b.length (bcells b) ∧ bs = hexOf b ++ bs.drop i ∧ Below w.heap.size w wr)
    case atStart => exact ⟨[], 0, rfl, rfl, rfl, World.ownsRow_nil _ _ _ _, rfl, Below.refl _ _⟩
    case round =>
      obtain ⟨b, i, rfl, hib, hg, hown, hsplit, hB⟩ := hrel
      replace hib := Lib.hid hib
      by_cases hlt : i < t.size
      · have hlt2 : i + 1 < t.size := by have := hib.out; omega
        obtain ⟨hl1, hx⟩ := HGET.out i hlt
        obtain ⟨hl2, hy⟩ := HGET.out (i + 1) hlt2
        obtain ⟨x, hx'⟩ : ∃ x, bs[i] = x := ⟨_, rfl⟩
        obtain ⟨y, hy'⟩ : ∃ y, bs[i + 1] = y := ⟨_, rfl⟩
        rw [hx'] at hx
        rw [hy'] at hy
        have hxn : (t[i]'hlt).toNat = x.toNat := by rw [hx]
        have hyn : (t[i + 1]'hlt2).toNat = y.toNat := by rw [hy]
        have hpair : bs.drop i = x :: y :: bs.drop (i + 1 + 1) := by
          rw [List.drop_eq_getElem_cons hl1, List.drop_eq_getElem_cons hl2, hx', hy']
        obtain ⟨xn, hxx⟩ : ∃ n, x.toNat = n := ⟨_, rfl⟩
        obtain ⟨yn, hyy⟩ : ∃ n, y.toNat = n := ⟨_, rfl⟩
        rw [hxx] at hxn
        rw [hyy] at hyn
        have HS := Lib.hid hsplit
        have HP := Lib.hid hpair
        have HXY := Lib.hid (And.intro hxx hyy)
        have HB := Lib.hid hB
        clear hx hy hx' hy' hpair hsplit hxx hyy hB
        go_wp2_with fail
        go_loopg [4, 6, 7] 256 (fun gm v' f n ws => ∃ m : Nat, n = .int .i64 (m : Int) ∧ gm + m = 256 ∧ Below w.heap.size w ws ∧
          ((f = .bool false ∧ ws.ownsRow w.heap.size 5 1 v' b.length (bcells b) ∧ ∀ k, k < m → ¬ (fig (k / 16) = x ∧ fig (k % 16) = y)) ∨
            (∃ u : UInt8, f = .bool true ∧ ws.ownsRow w.heap.size 5 1 v' (b.length + 1) (bcells (b ++ [u])) ∧ byteOf x y = some u ∧ u.toNat < m)))
        case atStart => exact ⟨0, rfl, rfl, HB.out, .inl ⟨rfl, hown, fun k h => absurd h (by omega)⟩⟩
        case round =>
          obtain ⟨m, rfl, hgm, hBm, hcase⟩ := hrel
          have HC := Lib.hid hcase
          have HBm := Lib.hid hBm
          clear hcase hBm
          by_cases hm : m < 256
          · have f1 := fun W => fig_hi W m hm
            have f2 := fun W => fig_lo W m
            have hw1 : IntKind.i64.wrap ((m : Int) / 16) = (m : Int) / 16 := IntWalk.i64_in _ (by omega)
            have hw2 : IntKind.i64.wrap ((i : Int) + 1) = (i : Int) + 1 := IntWalk.i64_in _ (by omega)
            have hw3 : (m : Int).tmod 16 = (m : Int) % 16 := Int.tmod_eq_emod_of_nonneg (by omega)
            have hw4 : (m : Int).tdiv 16 = (m : Int) / 16 := Int.tdiv_eq_ediv_of_nonneg (by omega)
            by_cases h1 : fig (m / 16) = x
            · rw [h1, HXY.out.1] at f1
              by_cases h2 : fig (m % 16) = y
              · rw [h2, HXY.out.2] at f2
                obtain ⟨ho, hno, rfl⟩ : wr.ownsRow w.heap.size 5 1 u4 b.length (bcells b) ∧ (∀ k, k < m → ¬ (fig (k / 16) = x ∧ fig (k % 16) = y)) ∧ u6 = .bool false := by
                  rcases HC.out with ⟨h, ho, hno⟩ | ⟨u, h, ho, hbu, hum⟩
                  · exact ⟨ho, hno, h⟩
                  · exfalso
                    obtain ⟨e1, e2⟩ := byteOf_some hbu
                    have hu := u.toNat_lt
                    have g1 := fig_inj (by omega) (by omega) (e1.trans h1.symm)
                    have g2 := fig_inj (by omega) (by omega) (e2.trans h2.symm)
                    omega
                have hw5 : IntKind.u8.wrap (m : Int) = (m : Int) := IntWalk.u8_in _ (by omega)
                have hnew : byteOf x y = some (UInt8.ofNat m) := by
                  have hm8 : (UInt8.ofNat m).toNat = m := by simp; omega
                  have := byteOf_fig (UInt8.ofNat m)
                  rw [hm8, h1, h2] at this
                  exact this
                have HN := Lib.hid hnew
                have HO := Lib.hid ho
                have hbl : b.length ≤ 70368744177664 := by have := hib.out; omega
                clear hnew ho hno h1 h2 HC
                go_wp2_with fail
                go_quiet ((go_at_call 18; (try rw [hw1]); first | (with_reducible exact quiet_at (f1 _)) | (with_reducible exact quiet_at (f2 _))))
                have HO2 := Lib.hid (show (wr.drewN nq).ownsRow w.heap.size 5 1 u4 b.length (bcells b) from HO.out)
                have HB2 := Lib.hid (below_figN HBm.out nq)
                generalize wr.drewN nq = W at *
                clear f1 f2
                go_wp2_with (at_builtin; refine wpList_append_own _ rfl _ _ 34 rfl w.heap.size 5 i0 (.int .u8 0) 1 1 Tryd.underlying34 hi hz0 hz1 hz2 rfl (by decide) _ _ _ rfl (HO2.out.alloc _) ⟨W.heap.size, 0, none⟩ 1 1 [.int .u8 (m : Int)] rfl rfl (cell_one_new _ _ _) (by simp [Value.oneCell']) (by simp [maxLen]; omega) (by omega) (by have h1 := HB2.out.size; simp; omega) ?_; intro v' w3 hown' hgrow _; replace hown' := Lib.hid hown'; replace hgrow := Lib.hid hgrow)
                have hstep : w3.ownsRow w.heap.size 5 1 v' (b.length + 1) (bcells (b ++ [UInt8.ofNat m])) := by
                  rw [bcells_append]
                  have : bcells [UInt8.ofNat m] = [.int .u8 (m : Int)] := by simp [bcells]; omega
                  rw [this]
                  exact hown'.out
                have hBs := below_app HB2.out HO2.out (.int .u8 (m : Int)) hgrow.out
                go_roundg (256 - (m + 1))
                case measure => omega
                case rel => exact ⟨m + 1, by simp, by omega, hBs, .inr ⟨UInt8.ofNat m, rfl, hstep, HN.out, by simp; omega⟩⟩
              · have HNO := Lib.hid (none_more HC.out fun e => h2 e.2)
                obtain ⟨z, hz⟩ : ∃ z, (fig (m % 16)).toNat = z := ⟨_, rfl⟩
                have hzy : ¬ (z : Int) = (yn : Int) := fun e => h2 (UInt8.toNat_inj.1 (by rw [HXY.out.2]; omega))
                rw [hz] at f2
                clear h1 h2 hz
                go_wp2_with fail
                go_quiet ((go_at_call 18; (try rw [hw1]); first | (with_reducible exact quiet_at (f1 _)) | (with_reducible exact quiet_at (f2 _))))
                have HB2 := Lib.hid (below_figN HBm.out nq)
                have HC2 : Hid ((u6 = .bool false ∧ (wr.drewN nq).ownsRow w.heap.size 5 1 u4 b.length (bcells b) ∧ ∀ k, k < m + 1 → ¬ (fig (k / 16) = x ∧ fig (k % 16) = y)) ∨
                  (∃ u : UInt8, u6 = .bool true ∧ (wr.drewN nq).ownsRow w.heap.size 5 1 u4 (b.length + 1) (bcells (b ++ [u])) ∧ byteOf x y = some u ∧ u.toNat < m + 1)) := Lib.hid HNO.out
                generalize wr.drewN nq = W at *
                clear f1 f2 HNO HC
                go_wp2_with fail
                go_roundg (256 - (m + 1))
                case measure => omega
                case rel => exact ⟨m + 1, by simp, by omega, HB2.out, HC2.out⟩
            · have HNO := Lib.hid (none_more HC.out fun e => h1 e.1)
              obtain ⟨z, hz⟩ : ∃ z, (fig (m / 16)).toNat = z := ⟨_, rfl⟩
              have hzy : ¬ (z : Int) = (xn : Int) := fun e => h1 (UInt8.toNat_inj.1 (by rw [HXY.out.1]; omega))
              rw [hz] at f1
              clear h1 hz f2
              go_wp2_with fail
              go_quiet ((go_at_call 18; (try rw [hw1]); first | (with_reducible exact quiet_at (f1 _))))
              have HB2 := Lib.hid (below_figN HBm.out nq)
              have HC2 : Hid ((u6 = .bool false ∧ (wr.drewN nq).ownsRow w.heap.size 5 1 u4 b.length (bcells b) ∧ ∀ k, k < m + 1 → ¬ (fig (k / 16) = x ∧ fig (k % 16) = y)) ∨
                (∃ u : UInt8, u6 = .bool true ∧ (wr.drewN nq).ownsRow w.heap.size 5 1 u4 (b.length + 1) (bcells (b ++ [u])) ∧ byteOf x y = some u ∧ u.toNat < m + 1)) := Lib.hid HNO.out
              generalize wr.drewN nq = W at *
              clear f1 HNO HC
              go_wp2_with fail
              go_roundg (256 - (m + 1))
              case measure => omega
              case rel => exact ⟨m + 1, by simp, by omega, HB2.out, HC2.out⟩
          · obtain rfl : m = 256 := by omega
            rcases HC.out with ⟨rfl, ho, hno⟩ | ⟨u, rfl, ho, hbu, _⟩
            · have hfail : unhexOf bs = none := unhex_fail HS.out HP.out (byteOf_no hno)
              have HF := Lib.hid (And.intro hfail HBm.out)
              clear ho hno HC hown hfail
              go_wp2_with fail
              go_ret2
              exact ⟨HF.out.2, .inr ⟨HF.out.1, rfl⟩⟩
            · have hnx := unhex_next HS.out HP.out hbu hib.out
              have HO := Lib.hid ho
              have HX := Lib.hid hnx
              clear ho hbu HC hown hnx
              go_wp2_with fail
              go_roundg (t.size - (i + 2))
              case measure => omega
              case rel => exact ⟨b ++ [u], i + 2, by simp, by have := hib.out; simp; omega, by omega, by simpa using HO.out, HX.out, HBm.out⟩
      · have hlast : unhexOf bs = some b := by
          have : bs.drop i = [] := List.drop_eq_nil_of_le (by have := HLEN.out; omega)
          rw [this, List.append_nil] at hsplit
          rw [hsplit]; exact unhexOf_hex b
        obtain ⟨q, cap, rfl, _, hq⟩ := own_by_rd hown
        have hge : ∀ a, q = some a → w.heap.size ≤ a.block := fun a e => (hown.lt a.block (by rw [e]; rfl)).1
        have HL := Lib.hid (And.intro hlast (And.intro hq (And.intro hB hge)))
        clear hlast hq hB hown hsplit hge
        go_wp2_with fail
        go_ret2
        exact ⟨HL.out.2.2.1, .inl ⟨b, HL.out.1, q, ⟨cap, rfl⟩, HL.out.2.1, HL.out.2.2.2⟩⟩
theorem ref7_Unhex (t : ByteArray) (hsz : t.size ≤ 140737488355328) (w : World) :
    Calls Tryd.prog 11 #[.string t] w fun e w' => Below w.heap.size w w' ∧
      ((∃ (b : By) (p : Option Addr) (cap : Nat), unhexOf t.data.toList = some b ∧ e = .returned (.tuple #[.slice p b.length cap, .int .i64 0]) ∧ RdV w' w'.heap.size p (bcells b)) ∨
        (unhexOf t.data.toList = none ∧ e = .returned (.tuple #[.slice none 0 0, .int .i64 3]))) :=
  (ref7_UnhexO t hsz w).mono fun _ _ ⟨h0, h⟩ => ⟨h0, h.imp (fun ⟨b, p, cap, h1, h2, h3, _⟩ => ⟨b, p, cap, h1, h2, h3⟩) id⟩
end Go.Proofs.YtaiinglogpbfjaaDoor
