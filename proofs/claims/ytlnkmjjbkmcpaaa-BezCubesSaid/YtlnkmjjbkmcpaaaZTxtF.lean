/- What the program's own Text answers. -/
import Derived.Test.YtlnkmjjbkmcpaaaZTxtX
import Derived.Test.YtlnkmjjbkmcpaaaZDivX
import Derived.Test.YtlnkmjjbkmcpaaaZNatY
namespace Go.Proofs.Ytlnkmjjbkmcpaaa
open Go.RowKit Num

theorem chunk_step {cs : List Nat} {N X : Nat} (h : N = val 1000000000 cs + 1000000000 ^ cs.length * X) :
    N = val 1000000000 (cs ++ [X % 1000000000]) + 1000000000 ^ (cs ++ [X % 1000000000]).length * (X / 1000000000) := by
  rw [val_snoc, List.length_append, List.length_singleton, Nat.pow_succ]
  have e := Nat.div_add_mod X 1000000000
  generalize X % 1000000000 = r at *
  generalize X / 1000000000 = q at *
  generalize 1000000000 ^ cs.length = P at *
  subst e
  rw [h]
  grind
theorem chunk_len {cs : List Nat} {N X n : Nat} (h : N = val 1000000000 cs + 1000000000 ^ cs.length * X) (hX : 0 < X) (hN : N < 4294967296 ^ n) : cs.length ≤ 2 * n := by
  have h1 : 1000000000 ^ cs.length * 1 ≤ 1000000000 ^ cs.length * X := Nat.mul_le_mul_left _ hX
  have h2 : (4294967296 : Nat) ^ n ≤ (1000000000 ^ 2) ^ n := Nat.pow_le_pow_left (by decide) n
  rw [← Nat.pow_mul] at h2
  have h3 : 1000000000 ^ cs.length < 1000000000 ^ (2 * n) := by omega
  exact Nat.le_of_lt ((Nat.pow_lt_pow_iff_right (show 1 < 1000000000 by omega)).1 h3)
theorem dec_chunk {cs : List Nat} {i : Nat} (hd : Dg 1000000000 cs) (hi : i < cs.length) (hM : 0 < val 1000000000 (cs.drop (i + 1))) :
    Lib.decDigits (val 1000000000 (cs.drop i)) = Lib.decDigits (val 1000000000 (cs.drop (i + 1))) ++ (List.replicate (9 - (Lib.decDigits cs[i]).length) 48 ++ Lib.decDigits cs[i]) := by
  have h := val_drop_succ (b := 1000000000) hi
  have hc := hd.get hi
  rw [h, ← pad_eq 9 cs[i] hc (by omega), ← dec_split 9 _ cs[i] hM hc]
  congr 1
  omega
theorem val_drop_le (b i : Nat) (hb : 0 < b) (cs : List Nat) : val b (cs.drop i) ≤ val b cs := by
  rcases Nat.lt_or_ge i cs.length with h | h
  · rw [val_split (b := b) (k := i) (xs := cs) (by omega)]
    have : 1 * val b (cs.drop i) ≤ b ^ i * val b (cs.drop i) := Nat.mul_le_mul_right _ (Nat.pow_pos hb)
    omega
  · rw [List.drop_eq_nil_of_le h]; exact Nat.zero_le _
theorem own_far {w w' : World} {base : Nat} {t : TypeId} {k : IntKind} {v : Value} {xs : List Nat} {g : Nat} (h : Own w base t k v xs) (hg : w.grownBy w' (some g)) (hlt : g < base) : Own w' base t k v xs := by
  refine ⟨h.1, ?_⟩
  rcases h.2 with h2 | ⟨g', cap, cur, hv, hb, hh, r⟩
  · exact .inl h2
  · refine .inr ⟨g', cap, cur, hv, hb, ?_, r⟩
    have hl : g' < w.heap.size := by
      rcases Nat.lt_or_ge g' w.heap.size with hl | hge
      · exact hl
      · rw [Array.getElem?_eq_none hge] at hh; cases hh
    rw [hg.block g' hl (fun e => by injection e with e; omega)]; exact hh
theorem owns_below {w w' : World} {base B n : Nat} {t : TypeId} {v : Value} {xs : List Value} (h : w.ownsRow base t 1 v n xs) (hb : Below B w w') (hB : w.heap.size ≤ B) : w'.ownsRow base t 1 v n xs := by
  refine ⟨h.1, ?_⟩
  rcases h.2 with h2 | ⟨g', cap, cur, hv, hb', hh, r⟩
  · exact .inl h2
  · refine .inr ⟨g', cap, cur, hv, hb', ?_, r⟩
    have hl : g' < w.heap.size := by
      rcases Nat.lt_or_ge g' w.heap.size with hl | hge
      · exact hl
      · rw [Array.getElem?_eq_none hge] at hh; cases hh
    rw [hb.block g' (by omega)]; exact hh
theorem noughts_cells (k : Nat) : Lib.strCells (ByteArray.extract ⟨#[48, 48, 48, 48, 48, 48, 48, 48, 48]⟩ k 9) = Lib.byteCells (List.replicate (9 - k) 48) := by
  rw [Lib.strCells_eq, extract_data]
  congr 1
  show ((List.replicate 9 (48 : UInt8)).drop k).take (9 - k) = _
  rw [List.drop_replicate, List.take_replicate, Nat.min_self]

theorem info_u8 : (Try.prog.info? 5).map (fun i => (i.zero, i.size, i.bytes)) = some (some (.int .u8 0), 1, 1) := by kernel_rfl
end Go.Proofs.Ytlnkmjjbkmcpaaa
