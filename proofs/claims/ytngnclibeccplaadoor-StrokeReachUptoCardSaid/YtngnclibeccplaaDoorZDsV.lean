/- Lines in pieces, as mathematics: a pattern, the point at a distance, a piece, what is drawn. No program is named here. -/
import Derived.Test.YtngnclibeccplaaDoorZGaW
import Derived.Test.YtngnclibeccplaaDoorZOaJ
namespace Go.Proofs.YtngnclibeccplaaDoor
open Num

/-- a line's points, of a closed one the first one again -/
def ringP (l : List Pt) (c : Bool) : List Pt := if c = true then rimG l else l
theorem ringP_open (l : List Pt) : ringP l false = l := rfl
theorem ringP_closed (l : List Pt) : ringP l true = rimG l := rfl
theorem ringP_nil (c : Bool) : ringP [] c = [] := by cases c <;> rfl
theorem rimG_le (l : List Pt) : (rimG l).length ≤ l.length + 1 := by
  unfold rimG
  simp
  omega
theorem ringP_le (l : List Pt) (c : Bool) : l.length ≤ (ringP l c).length ∧ (ringP l c).length ≤ l.length + 1 := by
  cases c
  · simp [ringP]
  · have := rimG_le l
    refine ⟨?_, this⟩
    show l.length ≤ (rimG l).length
    unfold rimG
    simp
theorem ringP_empty {l : List Pt} {c : Bool} : ringP l c = [] ↔ l = [] := by
  constructor
  · intro h
    have := (ringP_le l c).1
    rw [h] at this
    exact List.eq_nil_of_length_eq_zero (by simpa using this)
  · rintro rfl
    exact ringP_nil c
theorem fitL_ring {l : List Pt} {c : Bool} : FitL (ringP l c) ↔ FitL l := by
  constructor
  · intro h p hp
    refine h p ?_
    cases c
    · exact hp
    · exact List.mem_append.2 (.inl hp)
  · intro h
    cases c
    · exact h
    · exact fitL_rim h
theorem ringP_first {l : List Pt} {c : Bool} (h : 0 < l.length) : (ringP l c).getD 0 pt0 = l.getD 0 pt0 := by
  cases c
  · rfl
  · exact getD_appendL h
theorem longM_ring {l : List Pt} (h : FitL l) (c : Bool) : longM l c = chainTo (ringP l c) ((ringP l c).length - 1) := by
  cases c with
  | false => exact longM_open h
  | true =>
    rcases Nat.eq_zero_or_pos l.length with h0 | h0
    · obtain rfl := List.eq_nil_of_length_eq_zero h0
      rw [longM_nil]; rfl
    · rw [longM_closed h h0, ringP_closed, rimG_length h0, Nat.add_sub_cancel]
/-- which patterns may be -/
def MayD (P : List Int) (h : Int) : Prop := P.length ≤ 8 ∧ (0 ≤ h ∧ h ≤ 8388607) ∧ ∀ x ∈ P, 1 ≤ x ∧ x ≤ 8388607
instance (P : List Int) (h : Int) : Decidable (MayD P h) := by unfold MayD; exact inferInstance
def pattP (P : List Int) : List Int := if P.length % 2 = 1 then P ++ P else P
theorem pattP_le (P : List Int) : (pattP P).length ≤ 2 * P.length := by
  unfold pattP
  split
  · simp; omega
  · omega
theorem pattP_mem {P : List Int} {x : Int} : x ∈ pattP P ↔ x ∈ P := by
  unfold pattP
  split <;> simp
theorem pattP_nil : pattP [] = [] := rfl
theorem pattP_pos {P : List Int} (h : 0 < P.length) : 0 < (pattP P).length := by
  unfold pattP
  split
  · simp; omega
  · exact h
def sumTo (l : List Int) : Nat → Int
  | 0 => 0
  | i + 1 => sumTo l i + l.getD i 0
theorem getD_memI {l : List Int} {i : Nat} (h : i < l.length) : l.getD i 0 ∈ l := by
  have : l.getD i 0 = l[i] := by simp [List.getD, List.getElem?_eq_getElem h]
  rw [this]
  exact List.getElem_mem h
theorem sumTo_in {l : List Int} (h : ∀ x ∈ l, 1 ≤ x ∧ x ≤ 8388607) : ∀ i : Nat, i ≤ l.length → (i : Int) ≤ sumTo l i ∧ sumTo l i ≤ 8388607 * (i : Int)
  | 0, _ => by simp [sumTo]
  | i + 1, hi => by
    have h1 := sumTo_in h i (by omega)
    have h2 := h _ (getD_memI (show i < l.length by omega))
    simp only [sumTo]
    omega
def totalP (P : List Int) : Int := sumTo (pattP P) (pattP P).length
theorem totalP_in {P : List Int} {h : Int} (hm : MayD P h) : 0 ≤ totalP P ∧ totalP P ≤ 134217712 := by
  have h1 := pattP_le P
  have h2 := sumTo_in (l := pattP P) (fun x hx => hm.2.2 x (pattP_mem.1 hx)) _ (Nat.le_refl _)
  have h3 := hm.1
  unfold totalP
  omega
theorem totalP_pos {P : List Int} {h : Int} (hm : MayD P h) (hp : 0 < P.length) : 1 ≤ totalP P := by
  have h1 := pattP_pos hp
  have h2 := sumTo_in (l := pattP P) (fun x hx => hm.2.2 x (pattP_mem.1 hx)) _ (Nat.le_refl _)
  unfold totalP
  omega
/-- the point at a distance -/
def walkM (z : Pt) : List Pt → Int → Pt
  | a :: b :: r, n => if 0 < (lenG a b : Int) ∧ n ≤ (lenG a b : Int) then aheadG a b n else walkM z (b :: r) (n - (lenG a b : Int))
  | _, _ => z
def atM (l : List Pt) (c : Bool) (n : Int) : Pt := walkM ((ringP l c).getD 0 pt0) (ringP l c) n
def AtOk (l : List Pt) (c : Bool) (n : Int) : Prop := 0 < l.length ∧ FitL l ∧ 0 ≤ n ∧ n ≤ longM l c
instance (l : List Pt) (c : Bool) (n : Int) : Decidable (AtOk l c n) := by unfold AtOk; exact inferInstance
theorem drop_two {p : List Pt} {i : Nat} (h : i + 1 < p.length) : p.drop i = p.getD i pt0 :: p.getD (i + 1) pt0 :: p.drop (i + 2) := by
  rw [List.drop_eq_getElem_cons (show i < p.length by omega), List.drop_eq_getElem_cons h, getD_lt (show i < p.length by omega), getD_lt h]
theorem drop_one {p : List Pt} {i : Nat} (h : i < p.length) : p.drop i = p.getD i pt0 :: p.drop (i + 1) := by
  rw [List.drop_eq_getElem_cons h, getD_lt h]
theorem walk_hit {z : Pt} {p : List Pt} {i : Nat} {n : Int} (h : i + 1 < p.length) (hk : 0 < (lenG (p.getD i pt0) (p.getD (i + 1) pt0) : Int) ∧ n ≤ (lenG (p.getD i pt0) (p.getD (i + 1) pt0) : Int)) : walkM z (p.drop i) n = aheadG (p.getD i pt0) (p.getD (i + 1) pt0) n := by
  rw [drop_two h]
  show (if _ then _ else _) = _
  rw [if_pos hk]
theorem walk_on {z : Pt} {p : List Pt} {i : Nat} {n : Int} (h : i + 1 < p.length) (hk : ¬ (0 < (lenG (p.getD i pt0) (p.getD (i + 1) pt0) : Int) ∧ n ≤ (lenG (p.getD i pt0) (p.getD (i + 1) pt0) : Int))) : walkM z (p.drop i) n = walkM z (p.drop (i + 1)) (n - (lenG (p.getD i pt0) (p.getD (i + 1) pt0) : Int)) := by
  rw [drop_two h]
  show (if _ then _ else _) = _
  rw [if_neg hk, drop_one h]
theorem walk_end {z : Pt} {p : List Pt} {i : Nat} {n : Int} (h : p.length ≤ i + 1) : walkM z (p.drop i) n = z := by
  have hl : (p.drop i).length ≤ 1 := by rw [List.length_drop]; omega
  match hd : p.drop i, hl with
  | [], _ => rfl
  | [a], _ => rfl
/-- a line's points whose distance is between -/
def midsTo (p : List Pt) (a b : Int) : Nat → List Pt
  | 0 => []
  | i + 1 => if a < chainTo p i ∧ chainTo p i < b then midsTo p a b i ++ [p.getD i pt0] else midsTo p a b i
theorem midsTo_le (p : List Pt) (a b : Int) : ∀ i, (midsTo p a b i).length ≤ i
  | 0 => Nat.le_refl _
  | i + 1 => by
    have h := midsTo_le p a b i
    unfold midsTo
    split
    · rw [List.length_append]; simp; exact h
    · omega
/-- a piece, from a distance to another one -/
def rawP (l : List Pt) (c : Bool) (a b : Int) : List Pt := [if AtOk l c a then atM l c a else pt0] ++ midsTo (ringP l c) a b ((ringP l c).length - 1) ++ [if AtOk l c b then atM l c b else pt0]
def pieceP (l : List Pt) (c : Bool) (a b : Int) : List Pt := onceM (rawP l c a b)
theorem rawP_le (l : List Pt) (c : Bool) (a b : Int) : (rawP l c a b).length ≤ l.length + 2 := by
  have h1 := midsTo_le (ringP l c) a b ((ringP l c).length - 1)
  have h2 := (ringP_le l c).2
  unfold rawP
  simp
  omega
theorem pieceP_le (l : List Pt) (c : Bool) (a b : Int) : (pieceP l c a b).length ≤ l.length + 2 := Nat.le_trans (onceTo_le _ _) (rawP_le l c a b)
/-- what is drawn, length by length -/
def cutStep (l : List Pt) (c : Bool) (e : Int) (k : Nat) (at0 at1 : Int) (out : List Ln) : List Ln :=
  if k % 2 = 0 ∧ 1 < (pieceP l c (max at0 0) (min at1 e)).length then out ++ [⟨pieceP l c (max at0 0) (min at1 e), false⟩] else out
def cutGo (p : List Int) (l : List Pt) (c : Bool) (e : Int) : Nat → Nat → Int → Nat → List Ln → List Ln × Int
  | 0, _, _, _, out => (out, 0)
  | f + 1, k, at0, n, out =>
    if at0 < e then
      if 0 < at0 + p.getD (k % p.length) 0 then
        if 1000 < n + 1 then ([], 7) else cutGo p l c e f (k + 1) (at0 + p.getD (k % p.length) 0) (n + 1) (cutStep l c e k at0 (at0 + p.getD (k % p.length) 0) out)
      else cutGo p l c e f (k + 1) (at0 + p.getD (k % p.length) 0) n out
    else (out, 0)
def cutM (l : List Pt) (c : Bool) (P : List Int) (h : Int) : List Ln × Int :=
  if ¬ MayD P h then ([], 2) else if ¬ FitL l then ([], 4) else if P = [] then ([⟨l, c⟩], 0)
  else cutGo (pattP P) l c (longM l c) 2000 0 (-(h % totalP P)) 0 []
end Go.Proofs.YtngnclibeccplaaDoor
/- Lines in pieces, as mathematics, more: what is drawn lies within the line's box; a pattern as long as the line draws it at once. No program is named here. -/

namespace Go.Proofs.YtngnclibeccplaaDoor
open Num

/-- within a box -/
def InP (lo hi q : Pt) : Prop := (lo.x ≤ q.x ∧ q.x ≤ hi.x) ∧ (lo.y ≤ q.y ∧ q.y ≤ hi.y)
def InL (lo hi : Pt) (l : List Pt) : Prop := ∀ q ∈ l, InP lo hi q
theorem lowTo_le (l : List Pt) : ∀ n i, i < n → (lowTo l n).x ≤ (l.getD i pt0).x ∧ (lowTo l n).y ≤ (l.getD i pt0).y
  | 0, _, h => absurd h (by omega)
  | n + 1, i, h => by
    simp only [lowTo, lowP]
    by_cases e : i = n
    · subst e
      omega
    · have := lowTo_le l n i (by omega)
      omega
theorem highTo_ge (l : List Pt) : ∀ n i, i < n → (l.getD i pt0).x ≤ (highTo l n).x ∧ (l.getD i pt0).y ≤ (highTo l n).y
  | 0, _, h => absurd h (by omega)
  | n + 1, i, h => by
    simp only [highTo, highP]
    by_cases e : i = n
    · subst e
      omega
    · have := highTo_ge l n i (by omega)
      omega
theorem box_all (l : List Pt) : InL (lowTo l l.length) (highTo l l.length) l := by
  intro q hq
  obtain ⟨i, hi, rfl⟩ := List.getElem_of_mem hq
  have h1 := lowTo_le l l.length i hi
  have h2 := highTo_ge l l.length i hi
  rw [getD_lt hi] at h1 h2
  exact ⟨⟨h1.1, h2.1⟩, h1.2, h2.2⟩
theorem near_between {d m k : Int} (hd : -16777214 ≤ d ∧ d ≤ 16777214) (hm : 0 ≤ m ∧ m ≤ k) (hk : 0 < k) (hk2 : k < 33554432) : min 0 d ≤ nearG (d * m) k ∧ nearG (d * m) k ≤ max 0 d := by
  have hb := mul_in (x := d) (y := m) (M := 16777214) (N := 33554432) (by omega) (by omega)
  rw [nearG_yes (by unfold NearOk; omega)]
  rcases Int.le_total 0 d with h | h
  · have h1 := Int.mul_nonneg h hm.1
    have h2 := Int.mul_nonneg h (show 0 ≤ k - m by omega)
    have e : d * (k - m) = d * k - d * m := by rw [Int.mul_sub]
    have h3 := nearQ_in (v := d * m) (d := k) (lo := 0) (hi := d) hk ⟨by omega, by omega⟩
    omega
  · have h1 := Int.mul_nonneg (show 0 ≤ -d by omega) hm.1
    have h2 := Int.mul_nonneg (show 0 ≤ -d by omega) (show 0 ≤ k - m by omega)
    have e : -d * (k - m) = -(d * k) + d * m := by grind
    have e2 : -d * m = -(d * m) := by grind
    have h3 := nearQ_in (v := d * m) (d := k) (lo := d) (hi := 0) hk ⟨by omega, by omega⟩
    omega
theorem ahead_in {lo hi a b : Pt} {m : Int} (ha : FitP a) (hb : FitP b) (ia : InP lo hi a) (ib : InP lo hi b) (hm : 0 ≤ m ∧ m ≤ (lenG a b : Int)) (hk : 0 < (lenG a b : Int)) : InP lo hi (aheadG a b m) := by
  have hl := lenG_lt a b
  have hd := diff_in ha hb
  have n1 := near_between hd.1 hm hk (by omega)
  have n2 := near_between hd.2 hm hk (by omega)
  unfold aheadG
  rw [if_pos ⟨by omega, by omega⟩]
  unfold leadG InP at *
  dsimp only
  omega
theorem walk_in {lo hi z : Pt} (hz : InP lo hi z) : ∀ (p : List Pt) (n : Int), FitL p → InL lo hi p → 0 ≤ n → InP lo hi (walkM z p n)
  | [], _, _, _, _ => hz
  | [a], _, _, _, _ => hz
  | a :: b :: r, n, hf, hi', hn => by
    show InP lo hi (if _ then _ else _)
    split
    · rename_i h
      exact ahead_in (hf a (by simp)) (hf b (by simp)) (hi' a (by simp)) (hi' b (by simp)) ⟨hn, h.2⟩ h.1
    · rename_i h
      exact walk_in hz (b :: r) _ (fun q hq => hf q (List.mem_cons_of_mem _ hq)) (fun q hq => hi' q (List.mem_cons_of_mem _ hq)) (by omega)
theorem ring_in {lo hi : Pt} {l : List Pt} {c : Bool} (h : InL lo hi l) : InL lo hi (ringP l c) := by
  intro q hq
  cases c
  · exact h q hq
  · rcases List.mem_append.1 hq with hq | hq
    · exact h q hq
    · exact h q (List.mem_of_mem_take hq)
theorem getD_in {lo hi : Pt} {l : List Pt} (h : InL lo hi l) {i : Nat} (hi' : i < l.length) : InP lo hi (l.getD i pt0) := by
  rw [getD_lt hi']
  exact h _ (List.getElem_mem hi')
theorem mids_in {lo hi : Pt} {p : List Pt} {a b : Int} (h : InL lo hi p) : ∀ i, i ≤ p.length → InL lo hi (midsTo p a b i)
  | 0, _ => by simp [midsTo, InL]
  | i + 1, hi' => by
    have ih := mids_in (a := a) (b := b) h i (by omega)
    unfold midsTo
    split
    · intro q hq
      rcases List.mem_append.1 hq with hq | hq
      · exact ih q hq
      · rw [List.mem_singleton] at hq
        subst hq
        exact getD_in h (by omega)
    · exact ih
theorem once_mem {l : List Pt} : ∀ i, i ≤ l.length → ∀ q ∈ onceTo l i, q ∈ l
  | 0, _, q, hq => by simp [onceTo] at hq
  | i + 1, hi, q, hq => by
    have ih := once_mem (l := l) i (by omega)
    unfold onceTo at hq
    split at hq
    · rcases List.mem_append.1 hq with hq | hq
      · exact ih q hq
      · rw [List.mem_singleton] at hq
        subst hq
        rw [getD_lt (by omega)]
        exact List.getElem_mem _
    · exact ih q hq
theorem piece_in {lo hi : Pt} {l : List Pt} {c : Bool} {a b : Int} (h : InL lo hi l) (ha : AtOk l c a) (hb : AtOk l c b) : InL lo hi (pieceP l c a b) := by
  have hr := ring_in (c := c) h
  have hf := fitL_ring (c := c).2 ha.2.1
  have hl := (ringP_le l c).1
  have h0 : 0 < (ringP l c).length := Nat.lt_of_lt_of_le ha.1 hl
  have hz := getD_in hr h0
  intro q hq
  have hm := once_mem (l := rawP l c a b) _ (Nat.le_refl _) q hq
  unfold rawP at hm
  rw [if_pos ha, if_pos hb] at hm
  rcases List.mem_append.1 hm with hm | hm
  · rcases List.mem_append.1 hm with hm | hm
    · rw [List.mem_singleton] at hm
      subst hm
      exact walk_in hz _ _ hf hr ha.2.2.1
    · exact mids_in hr _ (by omega) q hm
  · rw [List.mem_singleton] at hm
    subst hm
    exact walk_in hz _ _ hf hr hb.2.2.1
theorem piece_nil (c : Bool) (a b : Int) : (pieceP [] c a b).length = 1 := by
  have hn : ∀ n, ¬ AtOk [] c n := fun n h => by have := h.1; simp at this
  unfold pieceP rawP onceM
  rw [if_neg (hn a), if_neg (hn b), ringP_nil]
  rfl
/-- every line of what is drawn lies within -/
def InLs (lo hi : Pt) (o : List Ln) : Prop := ∀ x ∈ o, InL lo hi x.pts
theorem cutStep_in {lo hi : Pt} {l : List Pt} {c : Bool} {k : Nat} {at0 at1 : Int} {o : List Ln} (hf : FitL l) (h : InL lo hi l) (ho : InLs lo hi o) (h1 : at0 < longM l c) (h2 : 0 < at1) (h3 : 0 ≤ longM l c) : InLs lo hi (cutStep l c (longM l c) k at0 at1 o) := by
  unfold cutStep
  split
  · rename_i hk
    intro x hx
    rcases List.mem_append.1 hx with hx | hx
    · exact ho x hx
    · rw [List.mem_singleton] at hx
      subst hx
      have hl : 0 < l.length := by
        rcases Nat.eq_zero_or_pos l.length with h0 | h0
        · obtain rfl := List.eq_nil_of_length_eq_zero h0
          have := hk.2
          rw [piece_nil] at this
          omega
        · exact h0
      exact piece_in h ⟨hl, hf, by omega, by omega⟩ ⟨hl, hf, by omega, by omega⟩
  · exact ho
theorem cutGo_in {lo hi : Pt} {p : List Int} {l : List Pt} {c : Bool} (hf : FitL l) (h : InL lo hi l) (h3 : 0 ≤ longM l c) : ∀ (f k : Nat) (at0 : Int) (n : Nat) (o : List Ln), InLs lo hi o → InLs lo hi (cutGo p l c (longM l c) f k at0 n o).1
  | 0, _, _, _, o, ho => ho
  | f + 1, k, at0, n, o, ho => by
    unfold cutGo
    split
    · rename_i h1
      split
      · rename_i h2
        split
        · intro x hx; cases hx
        · exact cutGo_in hf h h3 f _ _ _ _ (cutStep_in hf h ho h1 h2 h3)
      · exact cutGo_in hf h h3 f _ _ _ _ ho
    · exact ho
theorem longM_pos (l : List Pt) (c : Bool) : 0 ≤ longM l c := by
  by_cases hf : FitL l
  · rw [longM_ring hf]
    exact (chainTo_in _ _).1
  · rw [longM_no hf]; exact Int.le_refl _
theorem cutM_in (l : List Pt) (c : Bool) (P : List Int) (h : Int) : InLs (lowTo l l.length) (highTo l l.length) (cutM l c P h).1 := by
  unfold cutM
  split
  · intro x hx; cases hx
  · split
    · intro x hx; cases hx
    · rename_i hf
      have hf' : FitL l := Classical.byContradiction hf
      split
      · intro x hx
        rw [List.mem_singleton] at hx
        subst hx
        exact box_all l
      · exact cutGo_in hf' (box_all l) (longM_pos l c) _ _ _ _ _ (fun x hx => by cases hx)
/-- where it went wrong nothing is drawn -/
theorem cutGo_err {p : List Int} {l : List Pt} {c : Bool} {e : Int} : ∀ (f k : Nat) (at0 : Int) (n : Nat) (o : List Ln), (cutGo p l c e f k at0 n o).2 ≠ 0 → (cutGo p l c e f k at0 n o).1 = []
  | 0, _, _, _, o, h => absurd rfl h
  | f + 1, k, at0, n, o, h => by
    unfold cutGo at h ⊢
    split at h
    · rename_i h1
      rw [if_pos h1]
      split at h
      · rename_i h2
        rw [if_pos h2]
        split at h
        · rename_i h3
          rw [if_pos h3]
        · rename_i h3
          rw [if_neg h3]
          exact cutGo_err f _ _ _ _ h
      · rename_i h2
        rw [if_neg h2]
        exact cutGo_err f _ _ _ _ h
    · exact absurd rfl h
theorem cutM_err (l : List Pt) (c : Bool) (P : List Int) (h : Int) (he : (cutM l c P h).2 ≠ 0) : (cutM l c P h).1 = [] := by
  unfold cutM at he ⊢
  split at he
  · rename_i h1
    rw [if_pos h1]
  · rename_i h1
    rw [if_neg h1]
    split at he
    · rename_i h2
      rw [if_pos h2]
    · rename_i h2
      rw [if_neg h2]
      split at he
      · exact absurd rfl he
      · rename_i h3
        rw [if_neg h3]
        exact cutGo_err _ _ _ _ _ he
/-- a pattern of one length, as long as the line -/
theorem cutM_whole {l : List Pt} {c : Bool} (hf : FitL l) (h1 : 1 ≤ longM l c ∧ longM l c ≤ 8388607) : (cutM l c [longM l c] 0).2 = 0 ∧ (cutM l c [longM l c] 0).1.length ≤ 1 := by
  have hm : MayD [longM l c] 0 := ⟨by simp, by omega, fun x hx => by rw [List.mem_singleton] at hx; subst hx; exact h1⟩
  generalize hn : longM l c = n at *
  unfold cutM
  rw [if_neg (fun k => k hm), if_neg (fun k => k hf), if_neg (by simp)]
  have e1 : pattP [n] = [n, n] := rfl
  have e2 : -((0 : Int) % totalP [n]) = 0 := by simp
  rw [e1, e2, hn]
  have g0 : ([n, n] : List Int).getD (0 % ([n, n] : List Int).length) 0 = n := rfl
  have s1 : cutGo [n, n] l c n 2000 0 0 0 [] = cutGo [n, n] l c n 1999 1 n 1 (cutStep l c n 0 0 n []) := by
    show (if _ then _ else _) = _
    rw [if_pos (by omega), g0, Int.zero_add, if_pos (by omega), if_neg (by omega)]
  have s2 : cutGo [n, n] l c n 1999 1 n 1 (cutStep l c n 0 0 n []) = (cutStep l c n 0 0 n [], 0) := by
    show (if _ then _ else _) = _
    rw [if_neg (by omega)]
  rw [s1, s2]
  refine ⟨rfl, ?_⟩
  unfold cutStep
  split <;> simp
/-- how many lines they are, and of how many points -/
def SmallLs (m : Nat) (o : List Ln) : Prop := ∀ x ∈ o, x.pts.length ≤ m
theorem cutStep_small {l : List Pt} {c : Bool} {e : Int} {k : Nat} {at0 at1 : Int} {o : List Ln} (ho : SmallLs (l.length + 2) o) : SmallLs (l.length + 2) (cutStep l c e k at0 at1 o) ∧ (cutStep l c e k at0 at1 o).length ≤ o.length + 1 := by
  unfold cutStep
  split
  · refine ⟨fun x hx => ?_, by simp⟩
    rcases List.mem_append.1 hx with hx | hx
    · exact ho x hx
    · rw [List.mem_singleton] at hx
      subst hx
      exact pieceP_le _ _ _ _
  · exact ⟨ho, by omega⟩
theorem cutGo_small {p : List Int} {l : List Pt} {c : Bool} {e : Int} : ∀ (f k : Nat) (at0 : Int) (n : Nat) (o : List Ln), SmallLs (l.length + 2) o → SmallLs (l.length + 2) (cutGo p l c e f k at0 n o).1 ∧ (cutGo p l c e f k at0 n o).1.length ≤ o.length + f
  | 0, _, _, _, o, ho => ⟨ho, Nat.le_refl _⟩
  | f + 1, k, at0, n, o, ho => by
    unfold cutGo
    split
    · split
      · split
        · exact ⟨fun x hx => (by cases hx), Nat.zero_le _⟩
        · have h1 := cutStep_small (c := c) (e := e) (k := k) (at0 := at0) (at1 := at0 + p.getD (k % p.length) 0) ho
          have h2 := cutGo_small (p := p) (c := c) (e := e) f (k + 1) (at0 + p.getD (k % p.length) 0) (n + 1) _ h1.1
          exact ⟨h2.1, by omega⟩
      · have h2 := cutGo_small (p := p) (c := c) (e := e) f (k + 1) (at0 + p.getD (k % p.length) 0) n _ ho
        exact ⟨h2.1, by omega⟩
    · exact ⟨ho, by simp⟩
theorem cutM_small (l : List Pt) (c : Bool) (P : List Int) (h : Int) : SmallLs (l.length + 2) (cutM l c P h).1 ∧ (cutM l c P h).1.length ≤ 2000 := by
  unfold cutM
  split
  · exact ⟨fun x hx => (by cases hx), Nat.zero_le _⟩
  · split
    · exact ⟨fun x hx => (by cases hx), Nat.zero_le _⟩
    · split
      · refine ⟨fun x hx => ?_, by simp⟩
        rw [List.mem_singleton] at hx
        subst hx
        show l.length ≤ _
        omega
      · have := cutGo_small (l := l) (p := pattP P) (c := c) (e := longM l c) 2000 0 (-(h % totalP P)) 0 [] (fun x hx => (by cases hx))
        exact ⟨this.1, by simpa using this.2⟩
end Go.Proofs.YtngnclibeccplaaDoor
/- Lines as areas, as mathematics: what a pen puts on a way, between two ways, at an end; what is kept of it; how far it reaches. No program is named here. -/

namespace Go.Proofs.YtngnclibeccplaaDoor
open Num

/-- points together -/
def addP (p q : Pt) : Pt := ⟨p.x + q.x, p.y + q.y⟩
def subP (p q : Pt) : Pt := ⟨p.x - q.x, p.y - q.y⟩
def negP (p : Pt) : Pt := ⟨-p.x, -p.y⟩
/-- a pen -/
structure Pn where
  w : Int
  cap : Int
  join : Int
  lim : Int
  dash : List Int
  phase : Int
def PenOk (P : Pn) : Prop := (2 ≤ P.w ∧ P.w ≤ 65536) ∧ (0 ≤ P.cap ∧ P.cap ≤ 2) ∧ (0 ≤ P.join ∧ P.join ≤ 2) ∧ (256 ≤ P.lim ∧ P.lim ≤ 8192) ∧ MayD P.dash P.phase
instance (P : Pn) : Decidable (PenOk P) := by unfold PenOk; exact inferInstance
def halfM (P : Pn) : Int := P.w / 2
theorem halfM_in {P : Pn} (h : PenOk P) : 1 ≤ halfM P ∧ halfM P ≤ 32768 := by
  unfold halfM
  have := h.1
  omega
/-- the sixteen around a point -/
def cosL : List Int := [65536, 60547, 46341, 25080, 0, -25080, -46341, -60547, -65536, -60547, -46341, -25080, 0, 25080, 46341, 60547]
def sinL : List Int := [0, 25080, 46341, 60547, 65536, 60547, 46341, 25080, 0, -25080, -46341, -60547, -65536, -60547, -46341, -25080]
def ringAt (p : Pt) (h : Int) (k : Nat) : Pt := ⟨p.x + nearG (h * cosL.getD k 0) 65536, p.y + nearG (h * sinL.getD k 0) 65536⟩
def discTo (p : Pt) (h : Int) : Nat → List Pt
  | 0 => []
  | k + 1 => discTo p h k ++ [ringAt p h k]
theorem discTo_length (p : Pt) (h : Int) : ∀ k, (discTo p h k).length = k
  | 0 => rfl
  | k + 1 => by simp [discTo, discTo_length p h k]
def discM (p : Pt) (h : Int) : List Pt := if 0 ≤ h ∧ h ≤ 65536 then discTo p h 16 else []
/-- around a way -/
def barM (a b : Pt) (h : Int) : List Pt := if asideG a b h = pt0 then [] else [subP a (asideG a b h), subP b (asideG a b h), addP b (asideG a b h), addP a (asideG a b h)]
/-- between two ways -/
def sideM (a p b : Pt) (n : Pt) : Pt := if 0 < crG a p b then negP n else n
def byM (h : Int) (o q : Pt) : Int := h * h + o.x * q.x + o.y * q.y
def spikeM (h : Int) (o q : Pt) : Pt := ⟨nearG ((o.x + q.x) * h * h) (byM h o q), nearG ((o.y + q.y) * h * h) (byM h o q)⟩
def wedgeM (p : Pt) (P : Pn) (o q : Pt) : List Pt := if P.join = 1 ∧ 131072 * halfM P * halfM P ≤ P.lim * P.lim * byM (halfM P) o q then [p, addP p o, addP p (spikeM (halfM P) o q), addP p q] else [p, addP p o, addP p q]
def cornerM (a p b : Pt) (P : Pn) : List Pt := if PenOk P then (if P.join = 2 then discM p (halfM P) else if crG a p b = 0 then [] else wedgeM p P (sideM a p b (asideG a p (halfM P))) (sideM a p b (asideG p b (halfM P)))) else []
/-- at an end -/
def capM (a b : Pt) (h : Int) : Pt := leadG (b.x - a.x) (b.y - a.y) h (lenG a b)
def tipM (a b : Pt) (P : Pn) : List Pt := if PenOk P then (if P.cap = 2 then discM b (halfM P) else if P.cap = 0 ∨ asideG a b (halfM P) = pt0 then [] else [subP b (asideG a b (halfM P)), addP (subP b (asideG a b (halfM P))) (capM a b (halfM P)), addP (addP b (asideG a b (halfM P))) (capM a b (halfM P)), addP b (asideG a b (halfM P))]) else []
/-- all that is put on a line -/
def barsTo (r : List Pt) (h : Int) : Nat → List (List Pt)
  | 0 => []
  | i + 1 => barsTo r h i ++ [barM (r.getD i pt0) (r.getD (i + 1) pt0) h]
def beforeP (l : List Pt) (i : Nat) : Pt := if i = 0 then l.getD (l.length - 1) pt0 else l.getD (i - 1) pt0
def cornersTo (l : List Pt) (c : Bool) (P : Pn) : Nat → List (List Pt)
  | 0 => []
  | i + 1 => if c = true ∨ (0 < i ∧ i + 1 < l.length) then cornersTo l c P i ++ [cornerM (beforeP l i) (l.getD i pt0) (nextP l i) P] else cornersTo l c P i
def tipsM (l : List Pt) (c : Bool) (P : Pn) : List (List Pt) := if c = true then [] else [tipM (l.getD 1 pt0) (l.getD 0 pt0) P, tipM (l.getD (l.length - 2) pt0) (l.getD (l.length - 1) pt0) P]
def partsM (l : List Pt) (c : Bool) (P : Pn) : List (List Pt) := barsTo (ringP l c) (halfM P) ((ringP l c).length - 1) ++ cornersTo l c P l.length ++ tipsM l c P
/-- what is kept: what has an area, turned against the clock -/
def keepTo (a : List (List Pt)) : Nat → List (List Pt)
  | 0 => []
  | i + 1 => if twiceM (a.getD i []) = 0 then keepTo a i else keepTo a i ++ [turnedM (a.getD i [])]
def FitA (a : List (List Pt)) : Prop := ∀ x ∈ a, FitL x
instance (a : List (List Pt)) : Decidable (FitA a) := by unfold FitA FitL FitP; exact inferInstance
def strokeM (l : List Pt) (c : Bool) (P : Pn) : List (List Pt) × Int :=
  if PenOk P then (if FitL l then (if (lineM l c).length < 2 then ([], 0) else if FitA (partsM (lineM l c) c P) then (keepTo (partsM (lineM l c) c P) (partsM (lineM l c) c P).length, 0) else ([], 4)) else ([], 4)) else ([], 2)
theorem strokeM_err {l : List Pt} {c : Bool} {P : Pn} (h : (strokeM l c P).2 ≠ 0) : (strokeM l c P).1 = [] := by
  unfold strokeM at h ⊢
  split at h <;> rename_i h1 <;> simp only [h1, if_true, if_false] at h ⊢
  split at h <;> rename_i h2 <;> simp only [h2, if_true, if_false] at h ⊢
  split at h <;> rename_i h3 <;> simp only [h3, if_true, if_false] at h ⊢
  split at h <;> rename_i h4 <;> simp only [h4, if_true, if_false] at h ⊢
  exact absurd rfl h
/-- each has an area above 0 -/
theorem keepTo_pos (a : List (List Pt)) : ∀ i, ∀ x ∈ keepTo a i, 0 < twiceM x
  | 0, x, hx => by simp [keepTo] at hx
  | i + 1, x, hx => by
    unfold keepTo at hx
    split at hx
    · exact keepTo_pos a i x hx
    · rename_i h0
      rcases List.mem_append.1 hx with hx | hx
      · exact keepTo_pos a i x hx
      · rw [List.mem_singleton] at hx
        subst hx
        unfold turnedM
        split
        · rw [twiceM_reverse]; omega
        · omega
theorem keepTo_from (a : List (List Pt)) : ∀ i, i ≤ a.length → ∀ x ∈ keepTo a i, ∃ y ∈ a, x = turnedM y
  | 0, _, x, hx => by simp [keepTo] at hx
  | i + 1, hi, x, hx => by
    unfold keepTo at hx
    split at hx
    · exact keepTo_from a i (by omega) x hx
    · rcases List.mem_append.1 hx with hx | hx
      · exact keepTo_from a i (by omega) x hx
      · rw [List.mem_singleton] at hx
        refine ⟨_, ?_, hx⟩
        have e : a.getD i [] = a[i]'(by omega) := by simp [List.getD, List.getElem?_eq_getElem (show i < a.length by omega)]
        rw [e]
        exact List.getElem_mem _
theorem keepTo_le (a : List (List Pt)) : ∀ i, (keepTo a i).length ≤ i
  | 0 => by simp [keepTo]
  | i + 1 => by
    have := keepTo_le a i
    unfold keepTo
    split
    · omega
    · rw [List.length_append, List.length_singleton]; omega
theorem turned_mem {l : List Pt} {q : Pt} (h : q ∈ turnedM l) : q ∈ l := by
  unfold turnedM at h
  split at h
  · exact List.mem_reverse.1 h
  · exact h
/-- how far: no part of a number that is led on is greater than what it is led on by -/
theorem near_in {v k n : Int} (hn : 0 ≤ n) (hk : 0 < k) (h : -(n * k) ≤ v ∧ v ≤ n * k) : -n ≤ nearG v k ∧ nearG v k ≤ n := by
  by_cases ho : NearOk v k
  · rw [nearG_yes ho]
    have e : -n * k = -(n * k) := Int.neg_mul n k
    exact nearQ_in hk ⟨by omega, by omega⟩
  · rw [nearG_no ho]; omega
theorem lead_in {x n k : Int} (hn : 0 ≤ n) (hk : 0 ≤ k) (hx : -k ≤ x ∧ x ≤ k) : -n ≤ nearG (x * n) k ∧ nearG (x * n) k ≤ n := by
  rcases Int.lt_or_eq_of_le hk with h | h
  · have m := mul_in (x := x) (y := n) (M := k) (N := n) hx ⟨by omega, by omega⟩
    rw [Int.mul_comm k n] at m
    exact near_in hn h m
  · subst h
    rw [nearG_zero]; omega
/-- a way is not shorter than its parts -/
theorem root_ge {x : Int} {n r : Nat} (h : IsRoot n r) (hx : x * x ≤ (n : Int)) : -(r : Int) ≤ x ∧ x ≤ r := by
  have h2 := h.2
  have h3 : ((n : Int)) < ((r : Int) + 1) * ((r : Int) + 1) := by exact_mod_cast h2
  refine ⟨Classical.byContradiction fun k => ?_, Classical.byContradiction fun k => ?_⟩
  · have := Int.mul_nonneg (show 0 ≤ -x - (r + 1) by omega) (show 0 ≤ -x + (r + 1) by omega)
    have e : (-x - ((r : Int) + 1)) * (-x + ((r : Int) + 1)) = x * x - ((r : Int) + 1) * ((r : Int) + 1) := by grind
    omega
  · have := Int.mul_nonneg (show 0 ≤ x - (r + 1) by omega) (show 0 ≤ x + (r + 1) by omega)
    have e : (x - ((r : Int) + 1)) * (x + ((r : Int) + 1)) = x * x - ((r : Int) + 1) * ((r : Int) + 1) := by grind
    omega
theorem len_ge {a b : Pt} (ha : FitP a) (hb : FitP b) : (-(lenG a b : Int) ≤ b.x - a.x ∧ b.x - a.x ≤ lenG a b) ∧ (-(lenG a b : Int) ≤ b.y - a.y ∧ b.y - a.y ≤ lenG a b) := by
  rw [lenG_yes ha hb]
  have h := rootG_is (sqG a b).toNat
  have h2 := sqG_in ha hb
  have h3 := sq_in (diff_in ha hb).1
  have h4 := sq_in (diff_in ha hb).2
  have e : sqG a b = (b.x - a.x) * (b.x - a.x) + (b.y - a.y) * (b.y - a.y) := rfl
  exact ⟨root_ge h (by omega), root_ge h (by omega)⟩
/-- near a point, near a row of points' box -/
def OffP (n : Int) (p : Pt) : Prop := (-n ≤ p.x ∧ p.x ≤ n) ∧ (-n ≤ p.y ∧ p.y ≤ n)
theorem OffP.zero {n : Int} (h : 0 ≤ n) : OffP n pt0 := by
  unfold OffP pt0
  dsimp only
  omega
theorem aside_in {a b : Pt} {h : Int} (hh : 0 ≤ h) : OffP h (asideG a b h) := by
  unfold asideG
  split
  · by_cases hf : FitP a ∧ FitP b
    · have := len_ge hf.1 hf.2
      unfold leadG OffP
      exact ⟨lead_in hh (by omega) (by omega), lead_in hh (by omega) (by omega)⟩
    · rw [lenG_no hf]
      show OffP h (leadG _ _ h 0)
      rw [leadG_zero]
      exact OffP.zero hh
  · exact OffP.zero hh
theorem cap_in {a b : Pt} {h : Int} (hh : 0 ≤ h) : OffP h (capM a b h) := by
  unfold capM
  by_cases hf : FitP a ∧ FitP b
  · have := len_ge hf.1 hf.2
    unfold leadG OffP
    exact ⟨lead_in hh (by omega) (by omega), lead_in hh (by omega) (by omega)⟩
  · rw [lenG_no hf]
    show OffP h (leadG _ _ h 0)
    rw [leadG_zero]
    exact OffP.zero hh
theorem side_in {a p b n : Pt} {h : Int} (hn : OffP h n) : OffP h (sideM a p b n) := by
  unfold sideM
  split
  · unfold OffP negP at *
    dsimp only
    omega
  · exact hn
theorem wheel_in : ∀ k, (-65536 ≤ cosL.getD k 0 ∧ cosL.getD k 0 ≤ 65536) ∧ (-65536 ≤ sinL.getD k 0 ∧ sinL.getD k 0 ≤ 65536) := by
  intro k
  by_cases hk : k < 16
  · have : ∀ j : Fin 16, (-65536 ≤ cosL.getD j.1 0 ∧ cosL.getD j.1 0 ≤ 65536) ∧ (-65536 ≤ sinL.getD j.1 0 ∧ sinL.getD j.1 0 ≤ 65536) := by decide
    exact this ⟨k, hk⟩
  · have e1 : cosL.getD k 0 = 0 := by
      rw [List.getD, List.getElem?_eq_none (by simp [cosL]; omega)]; rfl
    have e2 : sinL.getD k 0 = 0 := by
      rw [List.getD, List.getElem?_eq_none (by simp [sinL]; omega)]; rfl
    rw [e1, e2]
    omega
/-- what is near a point -/
def Nigh (n : Int) (p q : Pt) : Prop := (p.x - n ≤ q.x ∧ q.x ≤ p.x + n) ∧ (p.y - n ≤ q.y ∧ q.y ≤ p.y + n)
def NighL (n : Int) (l : List Pt) (x : List Pt) : Prop := ∀ q ∈ x, ∃ p ∈ l, Nigh n p q
theorem Nigh.mono {n m : Int} {p q : Pt} (h : Nigh n p q) (hm : n ≤ m) : Nigh m p q := by
  unfold Nigh at *
  omega
theorem nigh_self {n : Int} (p : Pt) (h : 0 ≤ n) : Nigh n p p := by
  unfold Nigh
  omega
theorem nigh_add {n m : Int} {p q o : Pt} (h : Nigh n p q) (ho : OffP m o) : Nigh (n + m) p (addP q o) := by
  unfold Nigh OffP addP at *
  dsimp only
  omega
theorem nigh_sub {n m : Int} {p q o : Pt} (h : Nigh n p q) (ho : OffP m o) : Nigh (n + m) p (subP q o) := by
  unfold Nigh OffP subP at *
  dsimp only
  omega
theorem ring_nigh (p : Pt) {h : Int} (hh : 0 ≤ h) (k : Nat) : Nigh h p (ringAt p h k) := by
  have w := wheel_in k
  have m1 := mul_in (x := h) (y := cosL.getD k 0) (M := h) (N := 65536) (by omega) w.1
  have m2 := mul_in (x := h) (y := sinL.getD k 0) (M := h) (N := 65536) (by omega) w.2
  have n1 := near_in hh (k := 65536) (by omega) m1
  have n2 := near_in hh (k := 65536) (by omega) m2
  unfold Nigh ringAt
  dsimp only
  omega
theorem disc_nigh (p : Pt) {h : Int} (hh : 0 ≤ h) : ∀ k, ∀ q ∈ discTo p h k, Nigh h p q
  | 0, q, hq => by simp [discTo] at hq
  | k + 1, q, hq => by
    rcases List.mem_append.1 hq with hq | hq
    · exact disc_nigh p hh k q hq
    · rw [List.mem_singleton] at hq
      subst hq
      exact ring_nigh p hh k
theorem discM_nigh (p : Pt) {h : Int} (hh : 0 ≤ h) : ∀ q ∈ discM p h, Nigh h p q := by
  intro q hq
  unfold discM at hq
  split at hq
  · exact disc_nigh p hh 16 q hq
  · cases hq
theorem bar_nigh {l : List Pt} {a b : Pt} {h : Int} (hh : 0 ≤ h) (ha : a ∈ l) (hb : b ∈ l) : NighL h l (barM a b h) := by
  intro q hq
  have hn := aside_in (a := a) (b := b) hh
  unfold barM at hq
  split at hq
  · cases hq
  · simp only [List.mem_cons, List.not_mem_nil, or_false] at hq
    rcases hq with rfl | rfl | rfl | rfl
    · exact ⟨a, ha, (nigh_sub (nigh_self a (Int.le_refl 0)) hn).mono (by omega)⟩
    · exact ⟨b, hb, (nigh_sub (nigh_self b (Int.le_refl 0)) hn).mono (by omega)⟩
    · exact ⟨b, hb, (nigh_add (nigh_self b (Int.le_refl 0)) hn).mono (by omega)⟩
    · exact ⟨a, ha, (nigh_add (nigh_self a (Int.le_refl 0)) hn).mono (by omega)⟩
/-- how far a pen reaches -/
def reachM (P : Pn) : Int := 2 * halfM P + halfM P * P.lim * P.lim / 65536 + 4
theorem reach_ge {P : Pn} (h : PenOk P) : 2 * halfM P + 4 ≤ reachM P := by
  have h1 := halfM_in h
  have h2 := h.2.2.2.1
  have := Int.mul_nonneg (Int.mul_nonneg (show 0 ≤ halfM P by omega) (show 0 ≤ P.lim by omega)) (show 0 ≤ P.lim by omega)
  unfold reachM
  omega
/-- a spike goes no further than the limit lets it -/
theorem near_most {v k n : Int} (hn : 0 ≤ n) (hk : 0 < k) (h : -(n * k) ≤ 65536 * v ∧ 65536 * v ≤ n * k) : -(n / 65536 + 1) ≤ nearG v k ∧ nearG v k ≤ n / 65536 + 1 := by
  have e : n ≤ 65536 * (n / 65536 + 1) := by omega
  have m : n * k ≤ 65536 * (n / 65536 + 1) * k := Int.mul_le_mul_of_nonneg_right e (by omega)
  have e2 : 65536 * (n / 65536 + 1) * k = 65536 * ((n / 65536 + 1) * k) := Int.mul_assoc ..
  obtain ⟨z, hz⟩ : ∃ z, (n / 65536 + 1) * k = z := ⟨_, rfl⟩
  refine near_in (by omega) hk ?_
  rw [hz]
  rw [e2, hz] at m
  omega
theorem spike_part {x h L d : Int} (hx : -(2 * h) ≤ x ∧ x ≤ 2 * h) (hh : 1 ≤ h) (hL : 0 ≤ L) (hd : 131072 * h * h ≤ L * d) (hp : 0 < d) : -(h * L / 65536 + 1) ≤ nearG (x * h * h) d ∧ nearG (x * h * h) d ≤ h * L / 65536 + 1 := by
  have hq := Int.mul_nonneg (show 0 ≤ h by omega) (show 0 ≤ h by omega)
  have a1 := Int.mul_nonneg (show 0 ≤ 2 * h - x by omega) hq
  have a2 := Int.mul_nonneg (show 0 ≤ 2 * h + x by omega) hq
  have a3 := Int.mul_nonneg (show 0 ≤ h by omega) (show 0 ≤ L * d - 131072 * h * h by omega)
  refine near_most (Int.mul_nonneg (by omega) hL) hp ⟨?_, ?_⟩ <;> grind
theorem spike_in {P : Pn} {o q : Pt} (hP : PenOk P) (ho : OffP (halfM P) o) (hq : OffP (halfM P) q) (hb : 131072 * halfM P * halfM P ≤ P.lim * P.lim * byM (halfM P) o q) : OffP (halfM P * P.lim * P.lim / 65536 + 1) (spikeM (halfM P) o q) := by
  have h1 := halfM_in hP
  have h2 := hP.2.2.2.1
  have hL := Int.mul_nonneg (show 0 ≤ P.lim by omega) (show 0 ≤ P.lim by omega)
  have hs := Int.mul_pos (show 0 < halfM P by omega) (show 0 < halfM P by omega)
  have e : 131072 * halfM P * halfM P = 131072 * (halfM P * halfM P) := Int.mul_assoc ..
  have hp : 0 < byM (halfM P) o q := Classical.byContradiction fun k => by
    have := Int.mul_nonneg hL (show 0 ≤ -byM (halfM P) o q by omega)
    rw [Int.mul_neg] at this
    omega
  unfold OffP at ho hq
  rw [Int.mul_assoc (halfM P)]
  exact ⟨spike_part (by omega) h1.1 hL hb hp, spike_part (by omega) h1.1 hL hb hp⟩
theorem wedge_nigh {l : List Pt} {p : Pt} {P : Pn} {o q : Pt} (hP : PenOk P) (hp : p ∈ l) (ho : OffP (halfM P) o) (hq : OffP (halfM P) q) : NighL (reachM P) l (wedgeM p P o q) := by
  intro x hx
  have h1 := halfM_in hP
  have hr := reach_ge hP
  refine ⟨p, hp, ?_⟩
  unfold wedgeM at hx
  split at hx
  · rename_i hc
    have hs := spike_in hP ho hq hc.2
    simp only [List.mem_cons, List.not_mem_nil, or_false] at hx
    rcases hx with rfl | rfl | rfl | rfl
    · exact nigh_self _ (by omega)
    · exact (nigh_add (nigh_self p (Int.le_refl 0)) ho).mono (by omega)
    · exact (nigh_add (nigh_self p (Int.le_refl 0)) hs).mono (by unfold reachM; omega)
    · exact (nigh_add (nigh_self p (Int.le_refl 0)) hq).mono (by omega)
  · simp only [List.mem_cons, List.not_mem_nil, or_false] at hx
    rcases hx with rfl | rfl | rfl
    · exact nigh_self _ (by omega)
    · exact (nigh_add (nigh_self p (Int.le_refl 0)) ho).mono (by omega)
    · exact (nigh_add (nigh_self p (Int.le_refl 0)) hq).mono (by omega)
theorem corner_nigh {l : List Pt} {a p b : Pt} {P : Pn} (hP : PenOk P) (hp : p ∈ l) : NighL (reachM P) l (cornerM a p b P) := by
  intro x hx
  have h1 := halfM_in hP
  have hr := reach_ge hP
  unfold cornerM at hx
  rw [if_pos hP] at hx
  split at hx
  · exact ⟨p, hp, (discM_nigh p (by omega) x hx).mono (by omega)⟩
  · split at hx
    · cases hx
    · exact wedge_nigh hP hp (side_in (aside_in (by omega))) (side_in (aside_in (by omega))) x hx
theorem tip_nigh {l : List Pt} {a b : Pt} {P : Pn} (hP : PenOk P) (hb : b ∈ l) : NighL (reachM P) l (tipM a b P) := by
  intro x hx
  have h1 := halfM_in hP
  have hr := reach_ge hP
  have hn := aside_in (a := a) (b := b) (show 0 ≤ halfM P by omega)
  have hf := cap_in (a := a) (b := b) (show 0 ≤ halfM P by omega)
  refine ⟨b, hb, ?_⟩
  unfold tipM at hx
  rw [if_pos hP] at hx
  split at hx
  · exact (discM_nigh b (by omega) x hx).mono (by omega)
  · split at hx
    · cases hx
    · simp only [List.mem_cons, List.not_mem_nil, or_false] at hx
      rcases hx with rfl | rfl | rfl | rfl
      · exact (nigh_sub (nigh_self b (Int.le_refl 0)) hn).mono (by omega)
      · exact (nigh_add (nigh_sub (nigh_self b (Int.le_refl 0)) hn) hf).mono (by omega)
      · exact (nigh_add (nigh_add (nigh_self b (Int.le_refl 0)) hn) hf).mono (by omega)
      · exact (nigh_add (nigh_self b (Int.le_refl 0)) hn).mono (by omega)
theorem getD_mem {l : List Pt} {i : Nat} (h : i < l.length) : l.getD i pt0 ∈ l := by
  rw [getD_lt h]
  exact List.getElem_mem h
theorem ringP_mem {l : List Pt} {c : Bool} {q : Pt} (h : q ∈ ringP l c) : q ∈ l := by
  cases c
  · exact h
  · rcases List.mem_append.1 h with h | h
    · exact h
    · exact List.mem_of_mem_take h
theorem bars_nigh {l r : List Pt} {h : Int} (hh : 0 ≤ h) (hr : ∀ q ∈ r, q ∈ l) : ∀ i, i + 1 ≤ r.length → ∀ x ∈ barsTo r h i, NighL h l x
  | 0, _, x, hx => by simp [barsTo] at hx
  | i + 1, hi, x, hx => by
    rcases List.mem_append.1 hx with hx | hx
    · exact bars_nigh hh hr i (by omega) x hx
    · rw [List.mem_singleton] at hx
      subst hx
      exact bar_nigh hh (hr _ (getD_mem (by omega))) (hr _ (getD_mem (by omega)))
theorem corners_nigh {l : List Pt} {c : Bool} {P : Pn} (hP : PenOk P) : ∀ i, i ≤ l.length → ∀ x ∈ cornersTo l c P i, NighL (reachM P) l x
  | 0, _, x, hx => by simp [cornersTo] at hx
  | i + 1, hi, x, hx => by
    unfold cornersTo at hx
    split at hx
    · rcases List.mem_append.1 hx with hx | hx
      · exact corners_nigh hP i (by omega) x hx
      · rw [List.mem_singleton] at hx
        subst hx
        exact corner_nigh hP (getD_mem (by omega))
    · exact corners_nigh hP i (by omega) x hx
theorem parts_nigh {l : List Pt} {c : Bool} {P : Pn} (hP : PenOk P) (hl : 2 ≤ l.length) : ∀ x ∈ partsM l c P, NighL (reachM P) l x := by
  intro x hx
  have h1 := halfM_in hP
  have hr := reach_ge hP
  have hg := ringP_le l c
  unfold partsM at hx
  rcases List.mem_append.1 hx with hx | hx
  · rcases List.mem_append.1 hx with hx | hx
    · intro q hq
      obtain ⟨p, hp, hn⟩ := bars_nigh (l := l) (show 0 ≤ halfM P by omega) (fun q hq => ringP_mem hq) _ (by omega) x hx q hq
      exact ⟨p, hp, hn.mono (by omega)⟩
    · exact corners_nigh hP _ (Nat.le_refl _) x hx
  · unfold tipsM at hx
    split at hx
    · cases hx
    · simp only [List.mem_cons, List.not_mem_nil, or_false] at hx
      rcases hx with rfl | rfl
      · exact tip_nigh hP (getD_mem (by omega))
      · exact tip_nigh hP (getD_mem (by omega))
theorem lineM_mem {l : List Pt} {c : Bool} {q : Pt} (h : q ∈ lineM l c) : q ∈ l := by
  unfold lineM onceM at h
  split at h
  · exact once_mem _ (Nat.le_refl _) q (List.mem_of_mem_take h)
  · exact once_mem _ (Nat.le_refl _) q h
/-- nothing goes further from a line than its pen may -/
theorem stroke_in {l : List Pt} {c : Bool} {P : Pn} : ∀ x ∈ (strokeM l c P).1, 0 < twiceM x ∧ InL ⟨(lowTo l l.length).x - reachM P, (lowTo l l.length).y - reachM P⟩ ⟨(highTo l l.length).x + reachM P, (highTo l l.length).y + reachM P⟩ x := by
  intro x hx
  unfold strokeM at hx
  split at hx
  · rename_i hP
    split at hx
    · split at hx
      · cases hx
      · rename_i hl
        split at hx
        · refine ⟨keepTo_pos _ _ x hx, ?_⟩
          obtain ⟨y, hy, rfl⟩ := keepTo_from _ _ (Nat.le_refl _) x hx
          intro q hq
          obtain ⟨p, hp, hn⟩ := parts_nigh hP (by omega) y hy q (turned_mem hq)
          have hb := box_all l p (lineM_mem hp)
          unfold InP at hb ⊢
          unfold Nigh at hn
          dsimp only
          omega
        · cases hx
    · cases hx
  · cases hx
theorem strokeM_ok {l : List Pt} {c : Bool} {P : Pn} (h : (strokeM l c P).2 = 0) : PenOk P ∧ FitL l := by
  unfold strokeM at h
  split at h
  · rename_i hP
    split at h
    · rename_i hf
      exact ⟨hP, hf⟩
    · cases h
  · cases h
/-- how many there are, and how large they are -/
def SmallA (m : Nat) (a : List (List Pt)) : Prop := ∀ x ∈ a, x.length ≤ m
theorem discM_le (p : Pt) (h : Int) : (discM p h).length ≤ 16 := by
  unfold discM
  split
  · rw [discTo_length]; exact Nat.le_refl _
  · simp
theorem barM_le (a b : Pt) (h : Int) : (barM a b h).length ≤ 16 := by
  unfold barM
  split <;> simp
theorem cornerM_le (a p b : Pt) (P : Pn) : (cornerM a p b P).length ≤ 16 := by
  unfold cornerM
  split
  · split
    · exact discM_le _ _
    · split
      · simp
      · unfold wedgeM
        split <;> simp
  · simp
theorem tipM_le (a b : Pt) (P : Pn) : (tipM a b P).length ≤ 16 := by
  unfold tipM
  split
  · split
    · exact discM_le _ _
    · split <;> simp
  · simp
theorem barsTo_length (r : List Pt) (h : Int) : ∀ i, (barsTo r h i).length = i
  | 0 => rfl
  | i + 1 => by simp [barsTo, barsTo_length r h i]
theorem barsTo_small (r : List Pt) (h : Int) : ∀ i, SmallA 16 (barsTo r h i)
  | 0, x, hx => by simp [barsTo] at hx
  | i + 1, x, hx => by
    rcases List.mem_append.1 hx with hx | hx
    · exact barsTo_small r h i x hx
    · rw [List.mem_singleton] at hx
      subst hx
      exact barM_le _ _ _
theorem cornersTo_le (l : List Pt) (c : Bool) (P : Pn) : ∀ i, (cornersTo l c P i).length ≤ i
  | 0 => by simp [cornersTo]
  | i + 1 => by
    have := cornersTo_le l c P i
    unfold cornersTo
    split
    · rw [List.length_append, List.length_singleton]; omega
    · omega
theorem cornersTo_small (l : List Pt) (c : Bool) (P : Pn) : ∀ i, SmallA 16 (cornersTo l c P i)
  | 0, x, hx => by simp [cornersTo] at hx
  | i + 1, x, hx => by
    unfold cornersTo at hx
    split at hx
    · rcases List.mem_append.1 hx with hx | hx
      · exact cornersTo_small l c P i x hx
      · rw [List.mem_singleton] at hx
        subst hx
        exact cornerM_le _ _ _ _
    · exact cornersTo_small l c P i x hx
theorem partsM_small (l : List Pt) (c : Bool) (P : Pn) : SmallA 16 (partsM l c P) ∧ (partsM l c P).length ≤ 2 * l.length + 2 := by
  constructor
  · intro x hx
    unfold partsM at hx
    rcases List.mem_append.1 hx with hx | hx
    · rcases List.mem_append.1 hx with hx | hx
      · exact barsTo_small _ _ _ x hx
      · exact cornersTo_small _ _ _ _ x hx
    · unfold tipsM at hx
      split at hx
      · cases hx
      · simp only [List.mem_cons, List.not_mem_nil, or_false] at hx
        rcases hx with rfl | rfl <;> exact tipM_le _ _ _
  · have h1 := ringP_le l c
    have h2 := cornersTo_le l c P l.length
    unfold partsM tipsM
    rw [List.length_append, List.length_append, barsTo_length]
    split
    · rw [List.length_nil]; omega
    · rw [List.length_cons, List.length_cons, List.length_nil]; omega
theorem strokeM_small (l : List Pt) (c : Bool) (P : Pn) : SmallA 16 (strokeM l c P).1 ∧ (strokeM l c P).1.length ≤ 2 * l.length + 2 := by
  have z : SmallA 16 [] ∧ ([] : List (List Pt)).length ≤ 2 * l.length + 2 := ⟨fun x hx => absurd hx List.not_mem_nil, by simp⟩
  unfold strokeM
  split
  · split
    · split
      · exact z
      · split
        · have hs := partsM_small (lineM l c) c P
          have hk := keepTo_le (partsM (lineM l c) c P) (partsM (lineM l c) c P).length
          have hl := lineM_le l c
          refine ⟨fun x hx => ?_, by dsimp only; omega⟩
          obtain ⟨y, hy, rfl⟩ := keepTo_from _ _ (Nat.le_refl _) x hx
          rw [turnedM_length]
          exact hs.1 y hy
        · exact z
    · exact z
  · exact z
end Go.Proofs.YtngnclibeccplaaDoor
