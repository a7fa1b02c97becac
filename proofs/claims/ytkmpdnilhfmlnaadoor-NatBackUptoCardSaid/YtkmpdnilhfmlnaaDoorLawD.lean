/- The law NatTexts: a number's text, and the number that a text is, are the document's own. -/
import Derived.Test.YtkmpdnilhfmlnaaDoorLawA
import Derived.Test.YtkmpdnilhfmlnaaDoorTxtE
import Derived.Test.YtkmpdnilhfmlnaaDoorTxtF
namespace Go.Proofs.YtkmpdnilhfmlnaaDoor
open Go.RowKit Num

theorem parse_len {bs : List UInt8} {xs : List Nat} {er : Nat} (hn : Norm 4294967296 xs) (h : IsParse bs (val 4294967296 xs) er) : xs.length ≤ 2000 := by
  obtain ⟨m, hm⟩ : ∃ m, 2000 = m := ⟨_, rfl⟩
  unfold IsParse at h
  rw [hm] at h ⊢
  refine hn.2.length_le (b := 4294967296) (by omega) ?_
  have hp : 0 < (4294967296 : Nat) ^ m := Nat.pow_pos (by omega)
  rcases h with ⟨_, h, _⟩ | ⟨_, _, h, _⟩ | ⟨hl, hd, h, _⟩
  · rw [h]; exact hp
  · rw [h]; exact hp
  · rw [h]
    exact Nat.lt_of_lt_of_le (decVal_lt hd.2.2) (Nat.le_trans (Nat.pow_le_pow_right (by omega) hl) (Nat.pow_le_pow_left (by omega) m))

set_option maxHeartbeats 1600000 in
theorem walk_NatTexts (a : List Nat) (A : Option Addr) (ca : Nat) (t : ByteArray) (w : World) (h : Rd w (fun g => g < w.heap.size) .u32 A a) (hl : a.length ≤ 2097152) (hc : a.length ≤ ca) (ha : Dg 4294967296 a) (hsz : t.size ≤ 1048576) (htab : Tab w) :
    Calls Tryd.prog 6 #[.slice A a.length ca, .string t] w fun e w' => e = .returned (.bool true) ∧ Below w.heap.size w w' := by
  have cc := nat_Parse t hsz w
  go_enter Tryd.func6, Tryd.ntmps6
  go_wp2_with fail
  refine cc.mono ?_
  rintro e w1 ⟨A1, x1, c1, er, rfl, hc1, hn1, hp1, hr1, b1⟩
  have B1 : Below w.heap.size w w1 := b1
  have s1 := B1.size
  have HN1 := Lib.hid hn1
  have HP1 := Lib.hid hp1
  clear hn1 hp1 cc
  have cc := ref_Parse t hsz w1
  go_wp2_with fail
  refine cc.mono ?_
  rintro e w2 ⟨A2, x2, c2, fr, rfl, hc2, hn2, hp2, hr2, b2⟩
  obtain ⟨hxv, rfl⟩ := hp2.unique HP1.out
  obtain rfl : x1 = x2 := Norm.ext (b := 4294967296) (by omega) HN1.out hn2 hxv.symm
  have B2 : Below w.heap.size w w2 := B1.trans (b2.mono B1.size)
  have s2 := B2.size
  have z2 := b2.size
  clear hn2 hp2 hxv cc
  have ct := nat_Text a A ca _ w2 (h.below B2 (fun g hg => hg)) (fun g hg => by omega) hl hc ha (htab.on B2)
  have cr : ∀ W, Below w.heap.size w W → _ := fun W hW => ref_Text a A ca W ((h.below hW (fun g hg => hg)).imp fun g hg => by have := hW.size; omega) hl ha
  obtain ⟨tx, htx⟩ : ∃ tx, ByteArray.mk (Lib.decDigits (val 4294967296 a)).toArray = tx := ⟨_, rfl⟩
  rw [htx] at ct
  simp only [htx] at cr
  have CR := Lib.hid cr
  clear htx cr
  go_wp2_with fail
  refine ct.mono ?_
  rintro e w3 ⟨rfl, b3⟩
  have B3 : Below w.heap.size w w3 := B2.trans (b3.mono B2.size)
  have s3 := B3.size
  have z3 := b3.size
  clear ct
  have ct := CR.out w3 B3
  go_wp2_with fail
  refine ct.mono ?_
  rintro e w4 ⟨rfl, b4⟩
  have B4 : Below w.heap.size w w4 := B3.trans (b4.mono B3.size)
  have s4 := B4.size
  have z4 := b4.size
  clear ct CR
  have cc := ref_same x1 A1 A2 c1 c2 _ _ w4 (hr1.below (b2.trans ((b3.mono (by omega)).trans (b4.mono (by omega)))) (fun g hg => hg)) (hr2.below (b3.trans (b4.mono (by omega))) (fun g hg => hg)) (Nat.le_trans (parse_len HN1.out HP1.out) (by omega))
  go_wp2_with fail
  refine cc.mono ?_
  rintro e w5 ⟨rfl, m5, hw5⟩
  have b5 : Below w4.heap.size w4 w5 := by rw [hw5]; exact below_drewN (Below.refl _ _) m5
  have B5 : Below w.heap.size w w5 := B4.trans (b5.mono B4.size)
  have s5 := B5.size
  clear hw5 cc
  have cc := law_lives w5 (htab.on B5)
  go_wp2_with fail
  refine cc.mono ?_
  rintro e w6 ⟨rfl, b6⟩
  clear cc
  go_wp2
  go_ret
  exact ⟨rfl, B5.trans (b6.mono B5.size)⟩
end Go.Proofs.YtkmpdnilhfmlnaaDoor
