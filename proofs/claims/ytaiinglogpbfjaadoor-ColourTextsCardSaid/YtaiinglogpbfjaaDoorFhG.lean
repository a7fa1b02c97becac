/- Bytes in figures: the program's own, back. -/
import Derived.Test.YtaiinglogpbfjaaDoorFhF
import Derived.Lib.OthersKept
import Derived.Laws.RangeAny
namespace Go.Proofs.YtaiinglogpbfjaaDoor
open Go.RowKit

theorem byteOf_nofig1 {x y : UInt8} (h : ∀ n, n < 16 → ¬ (fig n).toNat = x.toNat) : byteOf x y = none := byteOf_no fun k hk ⟨h1, _⟩ => h (k / 16) (by omega) (by rw [h1])
theorem byteOf_nofig2 {x y : UInt8} (h : ∀ n, n < 16 → ¬ (fig n).toNat = y.toNat) : byteOf x y = none := byteOf_no fun k _ ⟨_, h2⟩ => h (k % 16) (by omega) (by rw [h2])
theorem byteOf_halves {h n : Nat} (hh : h < 16) (hn : n < 16) : byteOf (fig h) (fig n) = some (UInt8.ofNat (16 * h + n)) := by
  have e : (UInt8.ofNat (16 * h + n)).toNat = 16 * h + n := by simp; omega
  have := byteOf_fig (UInt8.ofNat (16 * h + n))
  rw [e, show (16 * h + n) / 16 = h by omega, show (16 * h + n) % 16 = n by omega] at this
  exact this
theorem or_halves : ∀ h : Nat, h < 16 → ∀ n : Nat, n < 16 → bits BinOp.or IntKind.u8 ((h : Int) * 16) (n : Int) = ((16 * h + n : Nat) : Int) := by decide +kernel
theorem or_zero : ∀ n : Nat, n < 16 → bits BinOp.or IntKind.u8 0 (n : Int) = (n : Int) := by decide +kernel
theorem Arr.iterAt {w : World} {g k : Nat} {t : TypeId} {vs : List Value} (h : Arr w g t vs) (hne : g ≠ k) (s : ByteArray) (p : Nat) : Arr (w.iterAt k s p) g t vs := by
  unfold Arr at *
  rw [← h]
  simp only [World.iterAt]
  rw [Array.getElem?_setIfInBounds, if_neg (fun e => hne e.symm)]
/-- the letter at a place is the figure n: what a range over the text hands over there -/
theorem rune_fig {t : ByteArray} {pos n : Nat} (hp : pos < t.size) (hn : n < 16) (h : ((fig n).toNat : Int) = ((Utf8.decode t pos).1 : Int)) : t[pos] = fig n ∧ (Utf8.decode t pos).2 = 1 := by
  have hf := fig_lt n hn
  by_cases ha : (t[pos]'hp).toNat < 128
  · rw [decode_ascii t pos hp ha] at h ⊢
    exact ⟨UInt8.toNat_inj.1 (by dsimp only at h; omega), rfl⟩
  · have := (decode_high t pos hp (by omega)).1
    omega
theorem rune_no {t : ByteArray} {pos : Nat} (hp : pos < t.size) (h : ¬ ∃ n, n < 16 ∧ ((fig n).toNat : Int) = ((Utf8.decode t pos).1 : Int)) : ∀ n, n < 16 → ¬ (fig n).toNat = (t[pos]'hp).toNat := by
  intro n hn e
  have hf := fig_lt n hn
  refine h ⟨n, hn, ?_⟩
  rw [decode_ascii t pos hp (by omega), e]
/-- between the bytes: all that came are bytes; or one figure more has come -/
def Halves (bs : By) (n : Nat) (pos : Nat) (vs : List Value) : Prop :=
  ∃ b : By, bs = hexOf b ++ bs.drop (2 * b.length) ∧ ((pos = 2 * b.length ∧ vs = fills (bcells b) (.int .u8 0) n) ∨
    (∃ h, h < 16 ∧ pos = 2 * b.length + 1 ∧ (bs.drop (2 * b.length)).head? = some (fig h) ∧ vs = fills (bcells (b ++ [UInt8.ofNat h])) (.int .u8 0) n))
theorem halves_start (bs : By) (n : Nat) : Halves bs n 0 (List.replicate n (.int .u8 0)) := ⟨[], rfl, .inl ⟨rfl, by rw [← fills_none]; rfl⟩⟩
/-- a letter that is no figure -/
theorem halves_bad {bs : By} {n pos : Nat} {vs : List Value} (h : Halves bs n pos vs) (hn : bs.length = 2 * n) (hp : pos < bs.length) (hno : ∀ k, k < 16 → ¬ (fig k).toNat = (bs[pos]).toNat) : unhexOf bs = none := by
  obtain ⟨b, hb, ⟨rfl, _⟩ | ⟨k, hk, rfl, hd, _⟩⟩ := h
  · have h2 : 2 * b.length + 1 < bs.length := by omega
    exact unhex_fail (y := bs[2 * b.length + 1]) hb (by rw [List.drop_eq_getElem_cons hp, List.drop_eq_getElem_cons h2]) (byteOf_nofig1 hno)
  · have h2 : 2 * b.length < bs.length := by omega
    exact unhex_fail (x := bs[2 * b.length]) hb (by rw [List.drop_eq_getElem_cons h2, List.drop_eq_getElem_cons hp]) (byteOf_nofig2 hno)
/-- all have come -/
theorem halves_end {bs : By} {n : Nat} {vs : List Value} (h : Halves bs n bs.length vs) (hn : bs.length = 2 * n) : ∃ b, unhexOf bs = some b ∧ b.length = n ∧ vs = bcells b := by
  obtain ⟨b, hb, ⟨h1, h2⟩ | ⟨k, hk, h1, _⟩⟩ := h
  · have hl : b.length = n := by omega
    have : bs.drop (2 * b.length) = [] := List.drop_eq_nil_of_le (by omega)
    rw [this, List.append_nil] at hb
    exact ⟨b, by rw [hb]; exact unhexOf_hex b, hl, by rw [h2, fills_all (by rw [bcells_length, hl])]⟩
  · omega
theorem bcells_ofNat {k : Nat} (h : k < 256) : bcells [UInt8.ofNat k] = [.int .u8 (k : Int)] := by simp [bcells]; omega
/-- what lies at a letter's byte, and what is to lie there -/
theorem halves_step {bs : By} {n pos : Nat} {vs : List Value} (h : Halves bs n pos vs) (hn : bs.length = 2 * n) (hp : pos < bs.length) {k : Nat} (hk : k < 16) (hc : bs[pos] = fig k) :
    ∃ m v : Nat, m = pos / 2 ∧ m < n ∧ vs[m]? = some (.int .u8 (v : Int)) ∧ v < 16 ∧ vs.length = n ∧ Halves bs n (pos + 1) (vs.set m (.int .u8 ((16 * v + k : Nat) : Int))) := by
  obtain ⟨b, hb, ⟨rfl, rfl⟩ | ⟨j, hj, rfl, hd, rfl⟩⟩ := h
  · refine ⟨b.length, 0, by omega, by omega, ?_, by omega, by simp [fills, bcells_length]; omega, b, hb, .inr ⟨k, hk, rfl, ?_, ?_⟩⟩
    · have := fills_at (vs := bcells b) (z := .int .u8 0) (n := n) (by rw [bcells_length]; omega)
      rwa [bcells_length] at this
    · rw [List.drop_eq_getElem_cons hp, hc]; rfl
    · have := fills_set (vs := bcells b) (z := .int .u8 0) (v := .int .u8 (k : Int)) (n := n) (by rw [bcells_length]; omega)
      rw [bcells_length] at this
      rw [bcells_append, bcells_ofNat (by omega), ← this]
      simp
  · have h2 : 2 * b.length < bs.length := by omega
    refine ⟨b.length, j, by omega, by omega, ?_, hj, by simp [fills, bcells_length]; omega, b ++ [UInt8.ofNat (16 * j + k)], ?_, .inl ⟨by simp; omega, ?_⟩⟩
    · rw [bcells_append, bcells_ofNat (by omega)]
      unfold fills
      rw [List.append_assoc, List.getElem?_append_right (by rw [bcells_length]; exact Nat.le_refl _), bcells_length, Nat.sub_self]
      rfl
    · have hx : bs.drop (2 * b.length) = fig j :: fig k :: bs.drop (2 * b.length + 1 + 1) := by
        rw [List.drop_eq_getElem_cons h2, List.head?_cons] at hd
        rw [List.drop_eq_getElem_cons h2, List.drop_eq_getElem_cons hp, hc, Option.some.inj hd]
      have := unhex_next hb hx (byteOf_halves hj hk) rfl
      rw [show 2 * (b ++ [UInt8.ofNat (16 * j + k)]).length = 2 * b.length + 2 by simp; omega]
      exact this
    · rw [bcells_append, bcells_ofNat (by omega), bcells_append, bcells_ofNat (by omega)]
      unfold fills
      rw [List.append_assoc, List.set_append_right _ _ (by rw [bcells_length]; exact Nat.le_refl _), bcells_length, Nat.sub_self, List.append_assoc]
      simp
end Go.Proofs.YtaiinglogpbfjaaDoor
