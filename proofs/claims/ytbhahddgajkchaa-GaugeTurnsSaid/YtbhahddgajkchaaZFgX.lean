/- Bytes in figures, there and back, as plain mathematics. No program is named here. -/
import Derived.Test.YtbhahddgajkchaaZLxV
namespace Go.Proofs.Ytbhahddgajkchaa

/-- a half byte's figure -/
def fig (n : Nat) : UInt8 := if n < 10 then UInt8.ofNat (48 + n) else UInt8.ofNat (87 + n)
theorem fig_nat {n : Nat} (h : n < 16) : (fig n).toNat = if n < 10 then 48 + n else 87 + n := by
  unfold fig
  split <;> simp [UInt8.toNat_ofNat] <;> omega
theorem fig_inj {m n : Nat} (hm : m < 16) (hn : n < 16) (h : fig m = fig n) : m = n := by
  have e := congrArg UInt8.toNat h
  rw [fig_nat hm, fig_nat hn] at e
  split at e <;> split at e <;> omega
/-- bytes in figures -/
def hexOf (b : By) : By := b.flatMap fun u => [fig (u.toNat / 16), fig (u.toNat % 16)]
theorem hexOf_nil : hexOf [] = [] := rfl
theorem hexOf_snoc (b : By) (u : UInt8) : hexOf (b ++ [u]) = hexOf b ++ [fig (u.toNat / 16), fig (u.toNat % 16)] := by simp [hexOf]
theorem hexOf_cons (u : UInt8) (b : By) : hexOf (u :: b) = fig (u.toNat / 16) :: fig (u.toNat % 16) :: hexOf b := rfl
theorem hexOf_length (b : By) : (hexOf b).length = 2 * b.length := by
  induction b with
  | nil => rfl
  | cons u b ih => rw [hexOf_cons, List.length_cons, List.length_cons, List.length_cons, ih]; omega
theorem hexOf_inj : ∀ {a b : By}, hexOf a = hexOf b → a = b
  | [], [], _ => rfl
  | [], v :: b, h => by rw [hexOf_cons] at h; cases h
  | u :: a, [], h => by rw [hexOf_cons] at h; cases h
  | u :: a, v :: b, h => by
    rw [hexOf_cons, hexOf_cons] at h
    have h1 := (List.cons.inj h).1
    have h2 := (List.cons.inj (List.cons.inj h).2).1
    have h3 := hexOf_inj (List.cons.inj (List.cons.inj h).2).2
    have hu := u.toNat_lt
    have hv := v.toNat_lt
    have e1 := fig_inj (by omega) (by omega) h1
    have e2 := fig_inj (by omega) (by omega) h2
    have : u = v := UInt8.toNat_inj.1 (by omega)
    rw [this, h3]
/-- the byte of two figures -/
def byteOf (x y : UInt8) : Option UInt8 := ((List.range 256).find? fun n => fig (n / 16) == x && fig (n % 16) == y).map UInt8.ofNat
theorem byteOf_some {x y u : UInt8} (h : byteOf x y = some u) : fig (u.toNat / 16) = x ∧ fig (u.toNat % 16) = y := by
  unfold byteOf at h
  obtain ⟨n, hn, rfl⟩ := Option.map_eq_some_iff.1 h
  have h1 := List.find?_some hn
  have h2 := List.mem_range.1 (List.mem_of_find?_eq_some hn)
  simp only [Bool.and_eq_true, beq_iff_eq] at h1
  have e : (UInt8.ofNat n).toNat = n := by simp; omega
  rw [e]
  exact h1
theorem byteOf_fig (u : UInt8) : byteOf (fig (u.toNat / 16)) (fig (u.toNat % 16)) = some u := by
  cases h : byteOf (fig (u.toNat / 16)) (fig (u.toNat % 16)) with
  | some v =>
    obtain ⟨h1, h2⟩ := byteOf_some h
    have hu := u.toNat_lt
    have hv := v.toNat_lt
    have e1 := fig_inj (by omega) (by omega) h1
    have e2 := fig_inj (by omega) (by omega) h2
    have : v = u := UInt8.toNat_inj.1 (by omega)
    rw [this]
  | none =>
    unfold byteOf at h
    rw [Option.map_eq_none_iff, List.find?_eq_none] at h
    have := h u.toNat (List.mem_range.2 (by have := u.toNat_lt; omega))
    simp at this
theorem byteOf_none {x y : UInt8} (h : byteOf x y = none) {n : Nat} (hn : n < 256) : (fig (n / 16) == x && fig (n % 16) == y) = false := by
  unfold byteOf at h
  rw [Option.map_eq_none_iff, List.find?_eq_none] at h
  have := h n (List.mem_range.2 hn)
  simpa using this
/-- the bytes of figures -/
def unhexOf : By → Option By
  | [] => some []
  | [_] => none
  | x :: y :: r => match byteOf x y with
    | none => none
    | some u => (unhexOf r).map (u :: ·)
theorem unhexOf_hex : ∀ b : By, unhexOf (hexOf b) = some b
  | [] => rfl
  | u :: b => by
    rw [hexOf_cons]
    unfold unhexOf
    rw [byteOf_fig, unhexOf_hex b]
    rfl
theorem unhexOf_some : ∀ {s b : By}, unhexOf s = some b → hexOf b = s
  | [], b, h => by cases h; rfl
  | [_], b, h => by cases h
  | x :: y :: r, b, h => by
    unfold unhexOf at h
    cases hb : byteOf x y with
    | none => rw [hb] at h; cases h
    | some u =>
      rw [hb] at h
      obtain ⟨c, hc, rfl⟩ := Option.map_eq_some_iff.1 h
      obtain ⟨h1, h2⟩ := byteOf_some hb
      rw [hexOf_cons, h1, h2, unhexOf_some hc]
theorem unhexOf_odd : ∀ {s : By}, s.length % 2 = 1 → unhexOf s = none
  | [], h => by simp at h
  | [_], _ => rfl
  | x :: y :: r, h => by
    unfold unhexOf
    rw [unhexOf_odd (s := r) (by simp at h; omega)]
    cases byteOf x y <;> rfl
/-- pair by pair from the front: what has come, and what is left -/
theorem unhexOf_at : ∀ {s b r : By}, s = hexOf b ++ r → unhexOf s = (unhexOf r).map (b ++ ·)
  | s, [], r, h => by
    rw [h, hexOf_nil, List.nil_append]
    cases unhexOf r <;> simp
  | s, u :: b, r, h => by
    rw [h, hexOf_cons, List.cons_append, List.cons_append]
    conv => lhs; unfold unhexOf
    rw [byteOf_fig]
    dsimp only
    rw [unhexOf_at (s := hexOf b ++ r) (b := b) rfl]
    generalize unhexOf r = z
    cases z <;> simp
end Go.Proofs.Ytbhahddgajkchaa
