/- Lengths, offsets and areas as mathematics. No program is named here. -/
import Derived.Test.YtngnclibeccplaaDoorZOaB
import Derived.Test.YtngnclibeccplaaDoorZOaC
import Derived.Test.YtngnclibeccplaaDoorZOaG
import Derived.BigRegion
import Derived.BigQuiet
import Derived.Deep.RegionHeld3
import Derived.Test.YtngnclibeccplaaDoorZRrX
import Derived.Test.YtngnclibeccplaaDoorZBgC
namespace Go.Proofs.YtngnclibeccplaaDoor

/-- twice the area of a triangle, signed; of a way and the origin -/
def crG (o a b : Pt) : Int := (a.x - o.x) * (b.y - o.y) - (a.y - o.y) * (b.x - o.x)
def shG (a b : Pt) : Int := a.x * b.y - a.y * b.x
theorem crG_sh (o a b : Pt) : crG o a b = shG a b + shG b o + shG o a := by unfold crG shG; grind
theorem shG_anti (a b : Pt) : shG a b = -shG b a := by unfold shG; grind
theorem shG_self (a : Pt) : shG a a = 0 := by unfold shG; grind
/-- triangles from one point, one behind the other -/
def fanG (o : Pt) : List Pt → Int
  | a :: b :: r => crG o a b + fanG o (b :: r)
  | _ => 0
def twiceG : List Pt → Int
  | [] => 0
  | p :: r => fanG p r
/-- the ways of a line, each with the origin -/
def goneG : List Pt → Int
  | a :: b :: r => shG a b + goneG (b :: r)
  | _ => 0
theorem fanG_gone (o : Pt) : ∀ (r : List Pt) (a : Pt), fanG o (a :: r) = goneG (a :: r) + shG ((a :: r).getLast (by simp)) o + shG o a
  | [], a => by
    have := shG_anti o a
    simp only [fanG, goneG, List.getLast_singleton]
    omega
  | b :: r, a => by
    have h := fanG_gone o r b
    have h2 := shG_anti o b
    simp only [fanG, goneG, crG_sh, h, List.getLast_cons_cons]
    omega
theorem twiceG_gone (p : Pt) (r : List Pt) : twiceG (p :: r) = goneG (p :: r) + shG ((p :: r).getLast (by simp)) p := by
  cases r with
  | nil => simp [twiceG, fanG, goneG, shG_self]
  | cons a r =>
    have h := fanG_gone p r a
    simp only [twiceG, goneG, List.getLast_cons_cons, h]
    omega
theorem goneG_snoc : ∀ (l : List Pt) (a b : Pt), goneG (l ++ [a] ++ [b]) = goneG (l ++ [a]) + shG a b
  | [], a, b => by simp [goneG]
  | [c], a, b => by simp [goneG]
  | c :: d :: l, a, b => by
    have h := goneG_snoc (d :: l) a b
    simp only [List.cons_append, goneG] at h ⊢
    omega
theorem goneG_reverse : ∀ l : List Pt, goneG l.reverse = -goneG l
  | [] => rfl
  | [a] => rfl
  | a :: b :: l => by
    have h := goneG_reverse (b :: l)
    have h2 := shG_anti a b
    have e : (a :: b :: l).reverse = l.reverse ++ [b] ++ [a] := by simp
    have e2 : (b :: l).reverse = l.reverse ++ [b] := by simp
    rw [e2] at h
    rw [e, goneG_snoc, h]
    simp only [goneG]
    omega
/-- what is turned round has the other area -/
theorem twiceG_reverse (l : List Pt) : twiceG l.reverse = -twiceG l := by
  cases l with
  | nil => rfl
  | cons p r =>
    have h1 := twiceG_gone p r
    cases hr : (p :: r).reverse with
    | nil => simp at hr
    | cons q s =>
      have h2 := twiceG_gone q s
      have hg := goneG_reverse (p :: r)
      have hl : (q :: s).getLast (by simp) = p := by
        have : (p :: r).reverse.getLast (by simp) = p := by simp
        simp only [hr] at this
        exact this
      have hq : (p :: r).getLast (by simp) = q := by
        have e : (p :: r).reverse.head (by simp) = (p :: r).getLast (by simp) := List.head_reverse (by simp)
        simp only [hr, List.head_cons] at e
        exact e.symm
      have h3 := shG_anti p q
      rw [h2, h1, hl, hq, ← hr, hg]
      omega
/-- a way round, each point with the next one: another way to reckon it -/
def roundG (l : List Pt) : Int := goneG l + (match l with | [] => 0 | p :: r => shG ((p :: r).getLast (by simp)) p)
theorem twiceG_round (l : List Pt) : twiceG l = roundG l := by
  cases l with
  | nil => rfl
  | cons p r => exact twiceG_gone p r
/-- the point that is turned round by: turned, where the area is below 0 -/
def turnedG (l : List Pt) : List Pt := if twiceG l < 0 then l.reverse else l
theorem turnedG_twice (l : List Pt) : 0 ≤ twiceG (turnedG l) := by
  unfold turnedG
  split
  · rw [twiceG_reverse]; omega
  · omega
theorem turnedG_length (l : List Pt) : (turnedG l).length = l.length := by
  unfold turnedG
  split <;> simp
/-- bounds -/
theorem cr_size {o a b : Pt} (ho : FitP o) (ha : FitP a) (hb : FitP b) : -562949819203592 ≤ crG o a b ∧ crG o a b ≤ 562949819203592 := by
  have m : ∀ x y : Int, -16777214 ≤ x ∧ x ≤ 16777214 → -16777214 ≤ y ∧ y ≤ 16777214 → -281474909601796 ≤ x * y ∧ x * y ≤ 281474909601796 := fun x y hx hy => by
    have h1 := Int.mul_nonneg (show 0 ≤ 16777214 - x by omega) (show 0 ≤ 16777214 - y by omega)
    have h2 := Int.mul_nonneg (show 0 ≤ 16777214 - x by omega) (show 0 ≤ 16777214 + y by omega)
    have h3 := Int.mul_nonneg (show 0 ≤ 16777214 + x by omega) (show 0 ≤ 16777214 - y by omega)
    have h4 := Int.mul_nonneg (show 0 ≤ 16777214 + x by omega) (show 0 ≤ 16777214 + y by omega)
    constructor <;> grind
  unfold FitP at ho ha hb
  have h1 := m (a.x - o.x) (b.y - o.y) (by omega) (by omega)
  have h2 := m (a.y - o.y) (b.x - o.x) (by omega) (by omega)
  unfold crG
  omega
theorem fanG_size {o : Pt} (ho : FitP o) : ∀ {l : List Pt}, FitL l → -562949819203592 * (l.length : Int) ≤ fanG o l ∧ fanG o l ≤ 562949819203592 * (l.length : Int)
  | [], _ => by simp [fanG]
  | [a], _ => by simp [fanG]
  | a :: b :: r, h => by
    have h1 := cr_size ho (h a (by simp)) (h b (by simp))
    have h2 := fanG_size ho (l := b :: r) (fun p hp => h p (List.mem_cons_of_mem _ hp))
    simp only [fanG, List.length_cons] at h2 ⊢
    omega
end Go.Proofs.YtngnclibeccplaaDoor
/- Lengths, offsets and areas as mathematics, more: what each function answers. No program is named here. -/

namespace Go.Proofs.YtngnclibeccplaaDoor
open Num

/-- a square root -/
def rootG : Nat → Nat
  | 0 => 0
  | n + 1 => if (rootG n + 1) * (rootG n + 1) ≤ n + 1 then rootG n + 1 else rootG n
theorem rootG_is : ∀ n, IsRoot n (rootG n)
  | 0 => IsRoot.zero
  | n + 1 => by
    obtain ⟨h1, h2⟩ := rootG_is n
    unfold rootG
    split
    · rename_i h
      refine ⟨h, ?_⟩
      have e : (rootG n + 1 + 1) * (rootG n + 1 + 1) = (rootG n + 1) * (rootG n + 1) + 2 * rootG n + 3 := by grind
      omega
    · exact ⟨by omega, by omega⟩
theorem rootG_of {n r : Nat} (h : IsRoot n r) : rootG n = r := (rootG_is n).unique h
/-- the squares of what two points differ by -/
def sqG (a b : Pt) : Int := (b.x - a.x) * (b.x - a.x) + (b.y - a.y) * (b.y - a.y)
theorem sqG_comm (a b : Pt) : sqG a b = sqG b a := by unfold sqG; grind
theorem diff_in {a b : Pt} (ha : FitP a) (hb : FitP b) : (-16777214 ≤ b.x - a.x ∧ b.x - a.x ≤ 16777214) ∧ (-16777214 ≤ b.y - a.y ∧ b.y - a.y ≤ 16777214) := by
  unfold FitP at ha hb
  omega
theorem sq_in {x M : Int} (hx : -M ≤ x ∧ x ≤ M) : 0 ≤ x * x ∧ x * x ≤ M * M := by
  have h1 := Int.mul_nonneg (show 0 ≤ M - x by omega) (show 0 ≤ M + x by omega)
  have e : (M - x) * (M + x) = M * M - x * x := by grind
  refine ⟨?_, by omega⟩
  rcases Int.le_total 0 x with h | h
  · exact Int.mul_nonneg h h
  · exact Int.mul_nonneg_of_nonpos_of_nonpos h h
theorem sqG_in {a b : Pt} (ha : FitP a) (hb : FitP b) : 0 ≤ sqG a b ∧ sqG a b ≤ 562949819203592 := by
  have h := diff_in ha hb
  have h1 := sq_in h.1
  have h2 := sq_in h.2
  unfold sqG
  omega
/-- how long a way is -/
def lenG (a b : Pt) : Nat := if FitP a ∧ FitP b then rootG (sqG a b).toNat else 0
theorem lenG_yes {a b : Pt} (ha : FitP a) (hb : FitP b) : lenG a b = rootG (sqG a b).toNat := if_pos ⟨ha, hb⟩
theorem lenG_no {a b : Pt} (h : ¬ (FitP a ∧ FitP b)) : lenG a b = 0 := if_neg h
theorem lenG_comm (a b : Pt) : lenG a b = lenG b a := by
  unfold lenG
  rw [sqG_comm]
  by_cases h : FitP a ∧ FitP b
  · rw [if_pos h, if_pos ⟨h.2, h.1⟩]
  · rw [if_neg h, if_neg (fun k => h ⟨k.2, k.1⟩)]
theorem lenG_lt (a b : Pt) : lenG a b < 33554432 := by
  unfold lenG
  split
  · rename_i h
    have h1 := (rootG_is (sqG a b).toNat).1
    have h2 := sqG_in h.1 h.2
    refine Classical.byContradiction fun n => ?_
    have h3 := Nat.mul_le_mul (show 33554432 ≤ rootG (sqG a b).toNat by omega) (show 33554432 ≤ rootG (sqG a b).toNat by omega)
    omega
  · omega
theorem lenG_fit {a b : Pt} (h : lenG a b ≠ 0) : FitP a ∧ FitP b := Classical.byContradiction fun n => h (lenG_no n)
/-- a quotient, to the nearest whole number -/
def NearOk (n d : Int) : Prop := (-1125899906842624 ≤ n ∧ n ≤ 1125899906842624) ∧ 1 ≤ d ∧ d ≤ 4294967296
instance (n d : Int) : Decidable (NearOk n d) := by unfold NearOk; exact inferInstance
def nearG (n d : Int) : Int := if NearOk n d then nearQ n d else 0
theorem nearG_yes {n d : Int} (h : NearOk n d) : nearG n d = nearQ n d := if_pos h
theorem nearG_no {n d : Int} (h : ¬ NearOk n d) : nearG n d = 0 := if_neg h
theorem nearG_zero (n : Int) : nearG n 0 = 0 := nearG_no (fun h => by unfold NearOk at h; omega)
theorem nearG_in (n d : Int) : -1125899906842624 ≤ nearG n d ∧ nearG n d ≤ 1125899906842624 := by
  by_cases h : NearOk n d
  · rw [nearG_yes h]
    obtain ⟨⟨h1, h2⟩, h3, h4⟩ := h
    have m := Int.mul_le_mul_of_nonneg_left h3 (show (0 : Int) ≤ 1125899906842624 by omega)
    exact nearQ_in (by omega) ⟨by omega, by omega⟩
  · rw [nearG_no h]; omega
theorem nearG_nil (d : Int) : nearG 0 d = 0 := by
  by_cases h : NearOk 0 d
  · rw [nearG_yes h]
    unfold NearOk at h
    have := nearQ_mul 0 (d := d) (by omega)
    simpa using this
  · exact nearG_no h
theorem mul_in {x y M N : Int} (hx : -M ≤ x ∧ x ≤ M) (hy : -N ≤ y ∧ y ≤ N) : -(M * N) ≤ x * y ∧ x * y ≤ M * N := by
  have h1 := Int.mul_nonneg (show 0 ≤ M - x by omega) (show 0 ≤ N - y by omega)
  have h2 := Int.mul_nonneg (show 0 ≤ M - x by omega) (show 0 ≤ N + y by omega)
  have h3 := Int.mul_nonneg (show 0 ≤ M + x by omega) (show 0 ≤ N - y by omega)
  have h4 := Int.mul_nonneg (show 0 ≤ M + x by omega) (show 0 ≤ N + y by omega)
  constructor <;> grind
/-- what leads on: where no length is, nothing -/
def leadG (x y n k : Int) : Pt := ⟨nearG (x * n) k, nearG (y * n) k⟩
theorem leadG_zero (x y n : Int) : leadG x y n 0 = pt0 := by unfold leadG; rw [nearG_zero, nearG_zero]; rfl
def asideG (a b : Pt) (h : Int) : Pt := if -65536 ≤ h ∧ h ≤ 65536 then leadG (a.y - b.y) (b.x - a.x) h (lenG a b) else pt0
def aheadG (a b : Pt) (n : Int) : Pt := if 0 ≤ n ∧ n ≤ 33554432 then ⟨a.x + (leadG (b.x - a.x) (b.y - a.y) n (lenG a b)).x, a.y + (leadG (b.x - a.x) (b.y - a.y) n (lenG a b)).y⟩ else a
theorem asideG_no {a b : Pt} {h : Int} (hh : ¬ (-65536 ≤ h ∧ h ≤ 65536)) : asideG a b h = pt0 := if_neg hh
theorem asideG_zero {a b : Pt} {h : Int} (hl : lenG a b = 0) : asideG a b h = pt0 := by
  unfold asideG
  split
  · rw [hl]; exact leadG_zero _ _ _
  · rfl
theorem aheadG_no {a b : Pt} {n : Int} (hh : ¬ (0 ≤ n ∧ n ≤ 33554432)) : aheadG a b n = a := if_neg hh
theorem aheadG_zero {a b : Pt} {n : Int} (hl : lenG a b = 0) : aheadG a b n = a := by
  unfold aheadG
  split
  · rw [hl]
    show (⟨a.x + (leadG _ _ n 0).x, a.y + (leadG _ _ n 0).y⟩ : Pt) = a
    rw [leadG_zero]
    cases a
    simp [pt0]
  · rfl
theorem aheadG_stay (a b : Pt) : aheadG a b 0 = a := by
  unfold aheadG leadG
  rw [if_pos ⟨by omega, by omega⟩, Int.mul_zero, Int.mul_zero, nearG_nil, Int.add_zero, Int.add_zero]
/-- how long a line is -/
def chainTo (l : List Pt) : Nat → Int
  | 0 => 0
  | i + 1 => chainTo l i + (lenG (l.getD i pt0) (l.getD (i + 1) pt0) : Int)
theorem chainTo_in (l : List Pt) : ∀ i, 0 ≤ chainTo l i ∧ chainTo l i ≤ 33554432 * (i : Int)
  | 0 => by simp [chainTo]
  | i + 1 => by
    have h := chainTo_in l i
    have h2 := lenG_lt (l.getD i pt0) (l.getD (i + 1) pt0)
    simp only [chainTo]
    omega
theorem getD_appendL {l r : List Pt} {i : Nat} (h : i < l.length) : (l ++ r).getD i pt0 = l.getD i pt0 := by
  simp [List.getD, List.getElem?_append_left h]
theorem getD_appendR {l : List Pt} (p : Pt) : (l ++ [p]).getD l.length pt0 = p := by
  simp [List.getD]
theorem chainTo_append (l r : List Pt) : ∀ i, i + 1 ≤ l.length → chainTo (l ++ r) i = chainTo l i
  | 0, _ => rfl
  | i + 1, h => by
    simp only [chainTo, chainTo_append l r i (by omega), getD_appendL (r := r) (show i < l.length by omega), getD_appendL (r := r) (show i + 1 < l.length by omega)]
def closeG (l : List Pt) (c : Bool) : Int := if c = true ∧ 0 < l.length then (lenG (l.getD (l.length - 1) pt0) (l.getD 0 pt0) : Int) else 0
def longM (l : List Pt) (c : Bool) : Int := if FitL l then chainTo l (l.length - 1) + closeG l c else 0
theorem longM_no {l : List Pt} {c : Bool} (h : ¬ FitL l) : longM l c = 0 := if_neg h
theorem longM_open {l : List Pt} (h : FitL l) : longM l false = chainTo l (l.length - 1) := by unfold longM closeG; rw [if_pos h]; simp
theorem longM_nil (c : Bool) : longM [] c = 0 := by unfold longM closeG; split <;> simp [chainTo]
/-- a row with its first one behind it -/
def rimG (l : List Pt) : List Pt := l ++ l.take 1
theorem rimG_length {l : List Pt} (h : 0 < l.length) : (rimG l).length = l.length + 1 := by unfold rimG; simp; omega
theorem rimG_eq {l : List Pt} (h : 0 < l.length) : rimG l = l ++ [l.getD 0 pt0] := by
  cases l with
  | nil => simp at h
  | cons p r => rfl
theorem longM_closed {l : List Pt} (h : FitL l) (hl : 0 < l.length) : longM l true = chainTo (rimG l) l.length := by
  unfold longM closeG
  rw [if_pos h, if_pos ⟨rfl, hl⟩, rimG_eq hl]
  obtain ⟨n, hn⟩ : ∃ n, l.length = n + 1 := ⟨l.length - 1, by omega⟩
  have e1 := chainTo_append l [l.getD 0 pt0] n (by omega)
  have e2 := getD_appendL (l := l) (r := [l.getD 0 pt0]) (i := n) (by omega)
  have e3 := getD_appendR (l := l) (l.getD 0 pt0)
  rw [hn] at e3 ⊢
  simp only [chainTo, e1, e2, e3, Nat.add_sub_cancel]
/-- which area is around points -/
def twiceM (l : List Pt) : Int := if FitL l then twiceG l else 0
theorem twiceM_yes {l : List Pt} (h : FitL l) : twiceM l = twiceG l := if_pos h
theorem twiceM_no {l : List Pt} (h : ¬ FitL l) : twiceM l = 0 := if_neg h
theorem fitL_reverse {l : List Pt} : FitL l.reverse ↔ FitL l := by simp [FitL]
theorem twiceM_reverse (l : List Pt) : twiceM l.reverse = -twiceM l := by
  unfold twiceM
  by_cases h : FitL l
  · rw [if_pos h, if_pos (fitL_reverse.2 h), twiceG_reverse]
  · rw [if_neg h, if_neg (fun k => h (fitL_reverse.1 k))]; rfl
def turnedM (l : List Pt) : List Pt := if twiceM l < 0 then l.reverse else l
theorem turnedM_length (l : List Pt) : (turnedM l).length = l.length := by unfold turnedM; split <;> simp
theorem turnedM_twice (l : List Pt) : 0 ≤ twiceM (turnedM l) := by
  unfold turnedM
  split
  · rw [twiceM_reverse]; omega
  · omega
theorem shG_in {a b : Pt} (ha : FitP a) (hb : FitP b) : -140737454800898 ≤ shG a b ∧ shG a b ≤ 140737454800898 := by
  have h1 := mul_in (x := a.x) (y := b.y) (M := 8388607) (N := 8388607) ha.1 hb.2
  have h2 := mul_in (x := b.x) (y := a.y) (M := 8388607) (N := 8388607) hb.1 ha.2
  have e : shG a b = a.x * b.y - b.x * a.y := by unfold shG; grind
  omega
/-- the sum on the way round, as far as one went -/
def goneTo (l : List Pt) : Nat → Int
  | 0 => 0
  | i + 1 => goneTo l i + shG (l.getD i pt0) (l.getD (i + 1) pt0)
theorem goneTo_take (l : List Pt) : ∀ i, i + 1 ≤ l.length → goneTo l i = goneG (l.take (i + 1))
  | 0, h => by
    cases l with
    | nil => simp at h
    | cons p r => simp [goneTo, goneG]
  | i + 1, h => by
    have h1 := goneTo_take l i (by omega)
    have e1 : l.take (i + 1 + 1) = l.take i ++ [l[i]] ++ [l[i + 1]] := by
      rw [List.take_succ_eq_append_getElem (show i + 1 < l.length by omega), List.take_succ_eq_append_getElem (show i < l.length by omega)]
    have e2 : l.take (i + 1) = l.take i ++ [l[i]] := List.take_succ_eq_append_getElem (show i < l.length by omega)
    simp only [goneTo]
    rw [h1, e1, goneG_snoc, ← e2]
    have e3 : l.getD i pt0 = l[i] := by simp [List.getD, List.getElem?_eq_getElem (show i < l.length by omega)]
    have e4 : l.getD (i + 1) pt0 = l[i + 1] := by simp [List.getD, List.getElem?_eq_getElem (show i + 1 < l.length by omega)]
    rw [e3, e4]
theorem goneTo_rim {l : List Pt} (h : 0 < l.length) : goneTo (rimG l) l.length = twiceG l := by
  have hr := rimG_length h
  rw [goneTo_take _ _ (by omega), ← hr, List.take_length, twiceG_round, rimG_eq h]
  unfold roundG
  cases l with
  | nil => simp at h
  | cons p r =>
    have e : p :: r = (p :: r).dropLast ++ [(p :: r).getLast (by simp)] := (List.dropLast_concat_getLast (by simp)).symm
    show goneG (p :: r ++ [p]) = goneG (p :: r) + shG ((p :: r).getLast (by simp)) p
    obtain ⟨d, hd⟩ : ∃ d, (p :: r).dropLast = d := ⟨_, rfl⟩
    obtain ⟨z, hz⟩ : ∃ z, (p :: r).getLast (by simp) = z := ⟨_, rfl⟩
    rw [hd, hz] at e
    rw [hz, e, goneG_snoc]
theorem goneTo_in {l : List Pt} (h : FitL l) : ∀ i : Nat, -140737454800898 * (i : Int) ≤ goneTo l i ∧ goneTo l i ≤ 140737454800898 * (i : Int)
  | 0 => by simp [goneTo]
  | i + 1 => by
    have h1 := goneTo_in h i
    have h2 := shG_in (h.getD i) (h.getD (i + 1))
    simp only [goneTo]
    omega
theorem fitL_rim {l : List Pt} (h : FitL l) : FitL (rimG l) := by
  intro p hp
  rcases List.mem_append.1 hp with hp | hp
  · exact h p hp
  · exact h p (List.mem_of_mem_take hp)
/-- triangles from the first point, as far as one went: i from 1 on -/
def fanTo (l : List Pt) : Nat → Int
  | 0 => 0
  | i + 1 => fanTo l i + crG (l.getD 0 pt0) (l.getD (i + 1) pt0) (l.getD (i + 2) pt0)
theorem fanG_snoc (o : Pt) : ∀ (l : List Pt) (a b : Pt), fanG o (l ++ [a] ++ [b]) = fanG o (l ++ [a]) + crG o a b
  | [], a, b => by simp [fanG]
  | [c], a, b => by simp [fanG]
  | c :: d :: l, a, b => by
    have h := fanG_snoc o (d :: l) a b
    simp only [List.cons_append, fanG] at h ⊢
    omega
theorem fanTo_take (p : Pt) (r : List Pt) : ∀ i, i + 1 ≤ r.length → fanTo (p :: r) i = fanG p (r.take (i + 1))
  | 0, h => by
    cases r with
    | nil => simp at h
    | cons q r => simp [fanTo, fanG]
  | i + 1, h => by
    have h1 := fanTo_take p r i (by omega)
    have e1 : r.take (i + 1 + 1) = r.take i ++ [r[i]] ++ [r[i + 1]] := by
      rw [List.take_succ_eq_append_getElem (show i + 1 < r.length by omega), List.take_succ_eq_append_getElem (show i < r.length by omega)]
    have e2 : r.take (i + 1) = r.take i ++ [r[i]] := List.take_succ_eq_append_getElem (show i < r.length by omega)
    simp only [fanTo]
    rw [h1, e1, fanG_snoc, ← e2]
    have e3 : (p :: r).getD (i + 1) pt0 = r[i] := by simp [List.getD, List.getElem?_eq_getElem (show i < r.length by omega)]
    have e4 : (p :: r).getD (i + 2) pt0 = r[i + 1] := by simp [List.getD, List.getElem?_eq_getElem (show i + 1 < r.length by omega)]
    rw [e3, e4]
    rfl
theorem fanTo_all (l : List Pt) : fanTo l (l.length - 2) = twiceG l := by
  cases l with
  | nil => rfl
  | cons p r =>
    cases r with
    | nil => rfl
    | cons q s =>
      have h := fanTo_take p (q :: s) s.length (by simp)
      simp only [List.length_cons] at h ⊢
      rw [show s.length + 1 + 1 - 2 = s.length by omega, h]
      show fanG p ((q :: s).take (q :: s).length) = _
      rw [List.take_length]
      rfl
theorem fanTo_in {l : List Pt} (h : FitL l) : ∀ i : Nat, -562949819203592 * (i : Int) ≤ fanTo l i ∧ fanTo l i ≤ 562949819203592 * (i : Int)
  | 0 => by simp [fanTo]
  | i + 1 => by
    have h1 := fanTo_in h i
    have h2 := cr_size (h.getD 0) (h.getD (i + 1)) (h.getD (i + 2))
    simp only [fanTo]
    omega
/-- the least and the greatest -/
def lowP (a b : Pt) : Pt := ⟨min a.x b.x, min a.y b.y⟩
def highP (a b : Pt) : Pt := ⟨max a.x b.x, max a.y b.y⟩
def lowTo (l : List Pt) : Nat → Pt
  | 0 => l.getD 0 pt0
  | i + 1 => lowP (lowTo l i) (l.getD i pt0)
def highTo (l : List Pt) : Nat → Pt
  | 0 => l.getD 0 pt0
  | i + 1 => highP (highTo l i) (l.getD i pt0)
/-- turned round place by place -/
theorem rev_get {l : List Pt} {i : Nat} (h : i < l.length) : l.reverse.getD i pt0 = l.getD (l.length - 1 - i) pt0 := by
  simp only [List.getD, List.getElem?_reverse h]
def flipTo (l : List Pt) (i : Nat) : List Pt := (List.range l.length).map fun j => if j < i ∨ l.length - i ≤ j then l.getD (l.length - 1 - j) pt0 else l.getD j pt0
theorem flipTo_length (l : List Pt) (i : Nat) : (flipTo l i).length = l.length := by simp [flipTo]
theorem flipTo_getElem {l : List Pt} {i j : Nat} (h : j < (flipTo l i).length) : (flipTo l i)[j] = if j < i ∨ l.length - i ≤ j then l.getD (l.length - 1 - j) pt0 else l.getD j pt0 := by simp [flipTo]
theorem getD_lt {l : List Pt} {i : Nat} (h : i < l.length) : l.getD i pt0 = l[i] := by simp [List.getD, List.getElem?_eq_getElem h]
theorem flipTo_zero (l : List Pt) : flipTo l 0 = l := by
  refine List.ext_getElem (flipTo_length l 0) fun j h1 h2 => ?_
  rw [flipTo_getElem, if_neg (by omega), getD_lt h2]
theorem flipTo_all {l : List Pt} {i : Nat} (h : l.length ≤ 2 * i + 1) : flipTo l i = l.reverse := by
  refine List.ext_getElem (by rw [flipTo_length, List.length_reverse]) fun j h1 h2 => ?_
  rw [flipTo_length] at h1
  rw [flipTo_getElem, List.getElem_reverse]
  split
  · rw [getD_lt (by omega)]
  · rw [getD_lt (by omega)]
    congr 1
    omega
theorem flipTo_step {l : List Pt} {i : Nat} (h : 2 * i + 1 < l.length) : ((flipTo l i).set i (l.getD (l.length - 1 - i) pt0)).set (l.length - 1 - i) (l.getD i pt0) = flipTo l (i + 1) := by
  refine List.ext_getElem (by simp [flipTo_length]) fun j h1 h2 => ?_
  rw [flipTo_length] at h2
  rw [List.getElem_set, List.getElem_set, flipTo_getElem, flipTo_getElem]
  by_cases e1 : l.length - 1 - i = j
  · rw [if_pos e1, if_pos (by omega)]
    congr 1
    omega
  · rw [if_neg e1]
    by_cases e2 : i = j
    · rw [if_pos e2, if_pos (by omega)]
      congr 1
      omega
    · rw [if_neg e2]
      by_cases e3 : j < i ∨ l.length - i ≤ j
      · rw [if_pos e3, if_pos (by omega)]
      · rw [if_neg e3, if_neg (by omega)]
end Go.Proofs.YtngnclibeccplaaDoor
/- Lengths, the program's own: Near, lead, fit, Len. -/

namespace Go.Proofs.YtngnclibeccplaaDoor
open Go.RowKit Num

set_option maxRecDepth 10000 in
set_option maxHeartbeats 1600000 in
theorem gauge_Near (v d : Int) (w : World) :
    Calls Tryd.prog 42 #[.int .i64 v, .int .i64 d] w fun e w' => e = .returned (.int .i64 (nearG v d)) ∧ w = w' := by
  by_cases h1 : v < -1125899906842624
  · rw [nearG_no (fun h => by unfold NearOk at h; omega)]
    go_enter Tryd.func42, Tryd.ntmps42
    go_wp2_with fail
    go_ret
    exact ⟨rfl, rfl⟩
  by_cases h2 : 1125899906842624 < v
  · rw [nearG_no (fun h => by unfold NearOk at h; omega)]
    go_enter Tryd.func42, Tryd.ntmps42
    go_wp2_with fail
    go_ret
    exact ⟨rfl, rfl⟩
  by_cases h3 : d < 1
  · rw [nearG_no (fun h => by unfold NearOk at h; omega)]
    go_enter Tryd.func42, Tryd.ntmps42
    go_wp2_with fail
    go_ret
    exact ⟨rfl, rfl⟩
  by_cases h4 : 4294967296 < d
  · rw [nearG_no (fun h => by unfold NearOk at h; omega)]
    go_enter Tryd.func42, Tryd.ntmps42
    go_wp2_with fail
    go_ret
    exact ⟨rfl, rfl⟩
  rw [nearG_yes (by unfold NearOk; omega)]
  have w1 : IntKind.i64.wrap (2 * d) = 2 * d := IntWalk.i64_in _ (by omega)
  have w2 : IntKind.i64.wrap (2 * v) = 2 * v := IntWalk.i64_in _ (by omega)
  have w3 : IntKind.i64.wrap (2 * v + d) = 2 * v + d := IntWalk.i64_in _ (by omega)
  have hz : ¬ 2 * d = 0 := by omega
  have hq := floor_quo (u := 2 * v + d) (t := 2 * d) (by omega)
  have hb : -9223372036854775808 ≤ (2 * v + d).tdiv (2 * d) - 1 ∧ (2 * v + d).tdiv (2 * d) ≤ 9223372036854775807 := by
    have e1 := Int.natAbs_tdiv_le_natAbs (2 * v + d) (2 * d)
    omega
  have w4 : IntKind.i64.wrap ((2 * v + d).tdiv (2 * d)) = (2 * v + d).tdiv (2 * d) := IntWalk.i64_in _ (by omega)
  have w5 : IntKind.i64.wrap ((2 * v + d).tdiv (2 * d) - 1) = (2 * v + d).tdiv (2 * d) - 1 := IntWalk.i64_in _ (by omega)
  unfold nearQ
  by_cases hc : (2 * v + d).tmod (2 * d) < 0
  · have HQ := Lib.hid (hq.1 hc)
    clear hq hb
    go_enter Tryd.func42, Tryd.ntmps42
    go_wp2_with fail
    go_ret
    exact ⟨by rw [← HQ.out]; rfl, rfl⟩
  · have HQ := Lib.hid (hq.2 hc)
    clear hq hb
    go_enter Tryd.func42, Tryd.ntmps42
    go_wp2_with fail
    go_ret
    exact ⟨by rw [← HQ.out]; rfl, rfl⟩

/-- a box of two zeros -/
theorem zero_box (w : World) : ∃ W, w.alloc (.cells #[.int .i64 0, .int .i64 0] 34) = W ∧ Box W w.heap.size 34 [.int .i64 0, .int .i64 0] ∧ Below w.heap.size w W := endP w _ _ _

set_option maxRecDepth 10000 in
set_option maxHeartbeats 1600000 in
theorem gauge_lead (x y n k : Int) (w : World) :
    Calls Tryd.prog 40 #[.int .i64 x, .int .i64 y, .int .i64 n, .int .i64 k] w fun e w' => e = .returned (ptV ⟨nearG (IntKind.i64.wrap (x * n)) k, nearG (IntKind.i64.wrap (y * n)) k⟩) ∧ Below w.heap.size w w' := by
  obtain ⟨W, hW, kW, bW⟩ := zero_box w
  obtain ⟨u, hu⟩ : ∃ u, IntKind.i64.wrap (x * n) = u := ⟨_, rfl⟩
  obtain ⟨v, hv⟩ : ∃ u, IntKind.i64.wrap (y * n) = u := ⟨_, rfl⟩
  have c1 := Lib.hid (fun V => gauge_Near u k V)
  have c2 := Lib.hid (fun V => gauge_Near v k V)
  obtain ⟨X, hX⟩ : ∃ X, nearG u k = X := ⟨_, rfl⟩
  obtain ⟨Y, hY⟩ : ∃ X, nearG v k = X := ⟨_, rfl⟩
  rw [hu, hv, hX, hY]
  rw [hX] at c1
  rw [hY] at c2
  obtain ⟨⟨z0, z1⟩, z2, z3⟩ := Box.pair kW
  obtain ⟨U, hU, kU, ⟨u0, u1⟩, bU⟩ := kW.stored2 (.int .i64 X) (.int .i64 Y)
  have HB := Lib.hid (bW.trans ((bU w.heap.size (Nat.le_refl _))))
  have HU := Lib.hid hU
  clear hX hY bU hU kU
  unfold ptV
  dsimp only
  go_enter Tryd.func40, Tryd.ntmps40
  go_wp2_with first
    | (go_at_call 42; (with_reducible refine Calls.mono (c1.out _) ?_); rintro e w1 ⟨rfl, rfl⟩)
    | (go_at_call 42; (with_reducible refine Calls.mono (c2.out _) ?_); rintro e w1 ⟨rfl, rfl⟩)
    | (rw [hW])
  try rw [HU.out]
  exact bodyPost_ret (by simp [results, Tryd.results40, go_sem, u0, u1]) rfl ⟨rfl, HB.out⟩

set_option maxRecDepth 10000 in
set_option maxHeartbeats 1600000 in
theorem gauge_fit (L : List Pt) (A : Option Addr) (c : Nat) (w : World) (hL : RdV w w.heap.size A (ptRow L)) (hl : L.length ≤ 1073741824) :
    Calls Tryd.prog 37 #[.slice A L.length c] w fun e w' => e = .returned (.bool (decide (FitL L))) ∧ Below w.heap.size w w' := by
  obtain ⟨n, hn⟩ : ∃ n, L.length = n := ⟨_, rfl⟩
  have HN := Lib.hid hn
  have HL := Lib.hid hL
  rw [hn] at hl ⊢
  obtain ⟨r, hr⟩ : ∃ r : Bool, decide (FitL L) = r := ⟨_, rfl⟩
  have HR := Lib.hid hr
  rw [hr]
  clear hn hL hr
  go_enter Tryd.func37, Tryd.ntmps37
  go_wp2_with fail
  go_loopg [7] n (fun gh it wr => ∃ i : Nat, it = .int .i64 (i : Int) ∧ gh + i = n ∧ (∀ p ∈ L.take i, FitP p) ∧ Below w.heap.size w wr)
  case atStart => exact ⟨0, rfl, by omega, by simp, Below.refl _ _⟩
  case round =>
    obtain ⟨i, rfl, hg, hok, hB⟩ := hrel
    by_cases hlt : i < n
    · have hlt' : i < L.length := by rw [HN.out]; exact hlt
      obtain ⟨g, o, rfl, hgl, e0, e1⟩ := (HL.out.below hB).pt (i := i) hlt'
      have hil : (i : Int) < (n : Int) := by omega
      obtain ⟨p, hpp⟩ : ∃ p, L[i] = p := ⟨_, rfl⟩
      have HST := Lib.hid (fitL_step hlt' hok)
      have HNO := Lib.hid (fitL_not hlt')
      rw [hpp] at e0 e1 HST HNO
      obtain ⟨d, hd⟩ : ∃ d : Bool, decide (FitP p) = d := ⟨_, rfl⟩
      have cF := fun V => aff_Fits p V
      rw [hd] at cF
      obtain ⟨x, y⟩ := p
      unfold ptV at cF
      dsimp only at e0 e1 cF
      obtain ⟨V0, hV0, k0, c0⟩ := endP wr 34 (.int .i64 x) (.int .i64 y)
      obtain ⟨⟨t0, t1⟩, -⟩ := Box.pair k0
      have CF := Lib.hid cF
      have HB := Lib.hid (hB.trans (c0.mono hB.size))
      have HD := Lib.hid hd
      clear hok hB cF hpp hlt' hd k0 c0
      cases d with
      | true =>
        have HS := Lib.hid (HST.out (of_decide_eq_true HD.out))
        clear HST HNO
        go_wp2_with first
          | (rw [hV0])
          | ((try rw [hV0]); go_at_call 17; with_reducible refine Calls.mono (CF.out _) ?_; rintro e w1 ⟨rfl, b1⟩)
        have hBB := HB.out.trans (b1.mono HB.out.size)
        go_roundg (n - (i + 1))
        case measure => omega
        case rel => exact ⟨i + 1, by simp, by omega, HS.out, hBB⟩
      | false =>
        have HS := Lib.hid (decide_eq_false (HNO.out (of_decide_eq_false HD.out)))
        clear HST HNO
        go_wp2_with first
          | (rw [hV0])
          | ((try rw [hV0]); go_at_call 17; with_reducible refine Calls.mono (CF.out _) ?_; rintro e w1 ⟨rfl, b1⟩)
        have hBB := HB.out.trans (b1.mono HB.out.size)
        go_ret
        rw [← HR.out, HS.out]
        exact ⟨rfl, hBB⟩
    · obtain rfl : i = n := by omega
      have HF := Lib.hid (decide_eq_true (fitL_all (l := L) (by rw [HN.out]; exact hok)))
      have HB := Lib.hid hB
      clear hok hB
      go_wp2_with fail
      go_ret
      rw [← HR.out, HF.out]
      exact ⟨rfl, HB.out⟩

/-- two boxes of points -/
theorem two_boxes (w : World) (a b : Pt) : ∃ W, (w.alloc (.cells #[.int .i64 a.x, .int .i64 a.y] 34)).alloc (.cells #[.int .i64 b.x, .int .i64 b.y] 34) = W ∧ Box W w.heap.size 34 [.int .i64 a.x, .int .i64 a.y] ∧ Box W (w.heap.size + 1) 34 [.int .i64 b.x, .int .i64 b.y] ∧ Below w.heap.size w W ∧ W.heap.size = w.heap.size + 2 := by
  refine ⟨_, rfl, (Box.new w _ [.int .i64 a.x, .int .i64 a.y]).alloc _, Box.at_new (w.alloc (.cells #[.int .i64 a.x, .int .i64 a.y] 34)) _ [.int .i64 b.x, .int .i64 b.y] (by simp), ?_, by simp⟩
  exact ((Below.refl _ w).alloc (Nat.le_refl _) _).alloc (by simp) _
theorem fitL_two (a b : Pt) : FitL [a, b] ↔ FitP a ∧ FitP b := by simp [FitL]
theorem sq_sum (x y : Int) (hx : -16777214 ≤ x ∧ x ≤ 16777214) (hy : -16777214 ≤ y ∧ y ≤ 16777214) : (0 ≤ x * x ∧ x * x ≤ 281474909601796) ∧ (0 ≤ y * y ∧ y * y ≤ 281474909601796) := ⟨sq_in hx, sq_in hy⟩

set_option maxRecDepth 10000 in
set_option maxHeartbeats 1600000 in
theorem gauge_Len (a b : Pt) (w : World) :
    Calls Tryd.prog 41 #[ptV a, ptV b] w fun e w' => e = .returned (.int .i64 (lenG a b : Int)) ∧ Below w.heap.size w w' := by
  obtain ⟨W, hW, k1, k2, bW, sW⟩ := two_boxes w a b
  have cF := gauge_fit [a, b] (some ⟨W.heap.size, 0, none⟩) 2 (W.alloc (.cells (ptRow [a, b]).toArray 34)) (Box.new W 34 (ptRow [a, b])).rd (by simp)
  have b2 := bW.alloc bW.size (.cells (ptRow [a, b]).toArray 34)
  have k1' := k1.alloc (.cells (ptRow [a, b]).toArray 34)
  have k2' := k2.alloc (.cells (ptRow [a, b]).toArray 34)
  obtain ⟨⟨p0, p1⟩, -⟩ := Box.pair k1
  obtain ⟨⟨q0, q1⟩, -⟩ := Box.pair k2
  have HK := Lib.hid (And.intro k1' (And.intro k2' b2))
  clear k1 k2 k1' k2' b2 bW sW
  by_cases hf : FitP a ∧ FitP b
  · rw [decide_eq_true ((fitL_two a b).2 hf)] at cF
    have hd := diff_in hf.1 hf.2
    have hs := sq_sum (b.x - a.x) (b.y - a.y) hd.1 hd.2
    obtain ⟨r, hr⟩ : ∃ r, lenG a b = r := ⟨_, rfl⟩
    have HR := Lib.hid (show IsRoot ((b.x - a.x) * (b.x - a.x) + (b.y - a.y) * (b.y - a.y)).toNat r from by rw [← hr, lenG_yes hf.1 hf.2]; exact rootG_is _)
    rw [hr]
    obtain ⟨ax, ay⟩ := a
    obtain ⟨bx, bY⟩ := b
    dsimp only at *
    obtain ⟨hd1, hd2⟩ := hd
    have w1 : IntKind.i64.wrap (bx - ax) = bx - ax := IntWalk.i64_in _ (by omega)
    have w2 : IntKind.i64.wrap (bY - ay) = bY - ay := IntWalk.i64_in _ (by omega)
    obtain ⟨X, hX⟩ : ∃ X, bx - ax = X := ⟨_, rfl⟩
    obtain ⟨Y, hY⟩ : ∃ X, bY - ay = X := ⟨_, rfl⟩
    rw [hX, hY] at HR hs
    rw [hX] at w1
    rw [hY] at w2
    obtain ⟨u, hu⟩ : ∃ u, X * X = u := ⟨_, rfl⟩
    obtain ⟨v, hv⟩ : ∃ u, Y * Y = u := ⟨_, rfl⟩
    rw [hu, hv] at HR hs
    have w3 : IntKind.i64.wrap u = u := IntWalk.i64_in _ (by omega)
    have w4 : IntKind.i64.wrap v = v := IntWalk.i64_in _ (by omega)
    have w5 : IntKind.i64.wrap (u + v) = u + v := IntWalk.i64_in _ (by omega)
    have CS := Lib.hid (fun V => root_SqrtInt (u + v) (by omega) (by omega) V)
    have CF := Lib.hid cF
    clear cF hr hf hs hd1 hd2
    unfold ptV
    dsimp only
    go_enter Tryd.func41, Tryd.ntmps41
    go_wp2_with first
      | (go_at_call 37; refine Calls.mono CF.out ?_; rintro e w1 ⟨rfl, b1⟩)
      | (rw [hW])
    obtain ⟨⟨p0, p1⟩, -⟩ := Box.pair (HK.out.1.below b1 HK.out.1.lt)
    obtain ⟨⟨q0, q1⟩, -⟩ := Box.pair (HK.out.2.1.below b1 HK.out.2.1.lt)
    have HB := Lib.hid (HK.out.2.2.trans (b1.mono HK.out.2.2.size))
    clear b1
    go_quiet (fail)
    go_wp2_with first
      | (go_at_call 47; (with_reducible refine Calls.mono (CS.out _) ?_); rintro e w2 ⟨s, rfl, hs, -, kk, rfl⟩)
    go_ret
    obtain rfl := hs.unique HR.out
    exact ⟨rfl, below_figE HB.out (nq + kk)⟩
  · rw [decide_eq_false (fun h => hf ((fitL_two a b).1 h))] at cF
    rw [lenG_no hf]
    obtain ⟨ax, ay⟩ := a
    obtain ⟨bx, bY⟩ := b
    dsimp only at *
    have CF := Lib.hid cF
    clear cF hf
    unfold ptV
    dsimp only
    go_enter Tryd.func41, Tryd.ntmps41
    go_wp2_with first
      | (go_at_call 37; refine Calls.mono CF.out ?_; rintro e w1 ⟨rfl, b1⟩)
      | (rw [hW])
    go_ret
    exact ⟨rfl, HK.out.2.2.trans (b1.mono HK.out.2.2.size)⟩
end Go.Proofs.YtngnclibeccplaaDoor
/- Lengths, the program's own: Aside, Ahead. -/

namespace Go.Proofs.YtngnclibeccplaaDoor
open Go.RowKit

/-- the boxes of two points and of a zero point -/
theorem three_boxes (w : World) (a b : Pt) : ∃ W, ((w.alloc (.cells #[.int .i64 a.x, .int .i64 a.y] 34)).alloc (.cells #[.int .i64 b.x, .int .i64 b.y] 34)).alloc (.cells #[.int .i64 0, .int .i64 0] 34) = W ∧ Box W w.heap.size 34 [.int .i64 a.x, .int .i64 a.y] ∧ Box W (w.heap.size + 1) 34 [.int .i64 b.x, .int .i64 b.y] ∧ Box W (w.heap.size + 2) 34 [.int .i64 0, .int .i64 0] ∧ Below w.heap.size w W ∧ W.heap.size = w.heap.size + 3 := by
  obtain ⟨V, hV, k1, k2, b, hs⟩ := two_boxes w a b
  rw [hV]
  have k3 := Box.new V 34 [.int .i64 0, .int .i64 0]
  rw [hs] at k3
  exact ⟨_, rfl, k1.alloc _, k2.alloc _, k3, b.alloc b.size _, by simp [hs]⟩
section
variable {W V V' : World} {s N : Nat} {a0 a1 b0 b1 : Value}
/-- what Aside and Ahead read, in each world that their calls leave -/
theorem way_call (hN : s + 2 ≤ N) (h : ((V.cell? ⟨s, 0, none⟩ = some a0 ∧ V.cell? ⟨s, 1, none⟩ = some a1) ∧ V.cell? ⟨s + 1, 0, none⟩ = some b0 ∧ V.cell? ⟨s + 1, 1, none⟩ = some b1) ∧ Below N W V ∧ N ≤ V.heap.size) (b : Below V.heap.size V V') :
    ((V'.cell? ⟨s, 0, none⟩ = some a0 ∧ V'.cell? ⟨s, 1, none⟩ = some a1) ∧ V'.cell? ⟨s + 1, 0, none⟩ = some b0 ∧ V'.cell? ⟨s + 1, 1, none⟩ = some b1) ∧ Below N W V' ∧ N ≤ V'.heap.size := by
  obtain ⟨⟨⟨h0, h1⟩, h2, h3⟩, h4, h5⟩ := h
  have hs := b.size
  exact ⟨⟨⟨(b.cell (p := ⟨s, 0, none⟩) (by show s < _; omega)).trans h0, (b.cell (p := ⟨s, 1, none⟩) (by show s < _; omega)).trans h1⟩, (b.cell (p := ⟨s + 1, 0, none⟩) (by show s + 1 < _; omega)).trans h2, (b.cell (p := ⟨s + 1, 1, none⟩) (by show s + 1 < _; omega)).trans h3⟩, h4.trans (b.mono (by omega)), by omega⟩
theorem way_store (hN : s + 2 ≤ N) (h : ((V.cell? ⟨s, 0, none⟩ = some a0 ∧ V.cell? ⟨s, 1, none⟩ = some a1) ∧ V.cell? ⟨s + 1, 0, none⟩ = some b0 ∧ V.cell? ⟨s + 1, 1, none⟩ = some b1) ∧ Below N W V ∧ N ≤ V.heap.size) {g : Nat} (hg : N ≤ g) (x y : Value) :
    ((((V.setCell ⟨g, 0, none⟩ x).setCell ⟨g, 1, none⟩ y).cell? ⟨s, 0, none⟩ = some a0 ∧ ((V.setCell ⟨g, 0, none⟩ x).setCell ⟨g, 1, none⟩ y).cell? ⟨s, 1, none⟩ = some a1) ∧ ((V.setCell ⟨g, 0, none⟩ x).setCell ⟨g, 1, none⟩ y).cell? ⟨s + 1, 0, none⟩ = some b0 ∧ ((V.setCell ⟨g, 0, none⟩ x).setCell ⟨g, 1, none⟩ y).cell? ⟨s + 1, 1, none⟩ = some b1) ∧ Below N W ((V.setCell ⟨g, 0, none⟩ x).setCell ⟨g, 1, none⟩ y) ∧ N ≤ ((V.setCell ⟨g, 0, none⟩ x).setCell ⟨g, 1, none⟩ y).heap.size := by
  obtain ⟨⟨⟨h0, h1⟩, h2, h3⟩, h4, h5⟩ := h
  have e : ∀ q : Nat, q < N → ∀ j, ((V.setCell ⟨g, 0, none⟩ x).setCell ⟨g, 1, none⟩ y).cell? ⟨q, j, none⟩ = V.cell? ⟨q, j, none⟩ := fun q hq j => by
    have hne : g ≠ q := by omega
    rw [World.cell?_setCell_far _ _ _ _ (by simpa using hne), World.cell?_setCell_far _ _ _ _ (by simpa using hne)]
  have hb : Below N V ((V.setCell ⟨g, 0, none⟩ x).setCell ⟨g, 1, none⟩ y) := ((Below.refl _ V).setCell (p := ⟨g, 0, none⟩) hg x).setCell (p := ⟨g, 1, none⟩) hg y
  refine ⟨⟨⟨(e s (by omega) 0).trans h0, (e s (by omega) 1).trans h1⟩, (e (s + 1) (by omega) 0).trans h2, (e (s + 1) (by omega) 1).trans h3⟩, h4.trans hb, ?_⟩
  simpa using h5
theorem way_alloc (hN : s + 2 ≤ N) (h : ((V.cell? ⟨s, 0, none⟩ = some a0 ∧ V.cell? ⟨s, 1, none⟩ = some a1) ∧ V.cell? ⟨s + 1, 0, none⟩ = some b0 ∧ V.cell? ⟨s + 1, 1, none⟩ = some b1) ∧ Below N W V ∧ N ≤ V.heap.size) (o : Obj) :
    (((V.alloc o).cell? ⟨s, 0, none⟩ = some a0 ∧ (V.alloc o).cell? ⟨s, 1, none⟩ = some a1) ∧ (V.alloc o).cell? ⟨s + 1, 0, none⟩ = some b0 ∧ (V.alloc o).cell? ⟨s + 1, 1, none⟩ = some b1) ∧ Below N W (V.alloc o) ∧ N ≤ (V.alloc o).heap.size :=
  way_call hN h ((Below.refl _ V).alloc (Nat.le_refl _) o)
end

set_option maxRecDepth 10000 in
set_option maxHeartbeats 3200000 in
theorem gauge_Aside (a b : Pt) (h : Int) (w : World) :
    Calls Tryd.prog 30 #[ptV a, ptV b, .int .i64 h] w fun e w' => e = .returned (ptV (asideG a b h)) ∧ Below w.heap.size w w' := by
  obtain ⟨W, hW, k1, k2, k3, bW, sW⟩ := three_boxes w a b
  by_cases hh : -65536 ≤ h ∧ h ≤ 65536
  · have cL := fun V => gauge_Len a b V
    have hK := fun V => gauge_lead (IntKind.i64.wrap (a.y - b.y)) (IntKind.i64.wrap (b.x - a.x)) h (lenG a b : Int) V
    have hE : (⟨nearG (IntKind.i64.wrap (IntKind.i64.wrap (a.y - b.y) * h)) (lenG a b : Int), nearG (IntKind.i64.wrap (IntKind.i64.wrap (b.x - a.x) * h)) (lenG a b : Int)⟩ : Pt) = asideG a b h := by
      by_cases hl : lenG a b = 0
      · rw [asideG_zero hl, hl]
        show (⟨nearG _ 0, nearG _ 0⟩ : Pt) = pt0
        rw [nearG_zero, nearG_zero]; rfl
      · have hf := lenG_fit hl
        have hd := diff_in hf.1 hf.2
        have w1 : IntKind.i64.wrap (a.y - b.y) = a.y - b.y := IntWalk.i64_in _ (by omega)
        have w2 : IntKind.i64.wrap (b.x - a.x) = b.x - a.x := IntWalk.i64_in _ (by omega)
        have m1 := mul_in (x := a.y - b.y) (y := h) (M := 16777214) (N := 65536) (by omega) hh
        have m2 := mul_in (x := b.x - a.x) (y := h) (M := 16777214) (N := 65536) (by omega) hh
        have w3 : IntKind.i64.wrap ((a.y - b.y) * h) = (a.y - b.y) * h := IntWalk.i64_in _ (by omega)
        have w4 : IntKind.i64.wrap ((b.x - a.x) * h) = (b.x - a.x) * h := IntWalk.i64_in _ (by omega)
        rw [w1, w2, w3, w4]
        unfold asideG leadG
        rw [if_pos hh]
    simp only [hE] at hK
    obtain ⟨R, hR⟩ : ∃ R, asideG a b h = R := ⟨_, rfl⟩
    rw [hR] at hK ⊢
    obtain ⟨l, hl⟩ : ∃ l, lenG a b = l := ⟨_, rfl⟩
    rw [hl] at hK
    simp only [hl] at cL
    obtain ⟨ax, ay⟩ := a
    obtain ⟨bx, bY⟩ := b
    obtain ⟨X, Y⟩ := R
    unfold ptV at *
    dsimp only at *
    obtain ⟨⟨p0, p1⟩, -⟩ := Box.pair k1
    obtain ⟨⟨q0, q1⟩, -⟩ := Box.pair k2
    obtain ⟨⟨z0, z1⟩, z2, z3⟩ := Box.pair k3
    have HP := Lib.hid (show ((W.drew.cell? ⟨w.heap.size, 0, none⟩ = some (.int .i64 ax) ∧ W.drew.cell? ⟨w.heap.size, 1, none⟩ = some (.int .i64 ay)) ∧ W.drew.cell? ⟨w.heap.size + 1, 0, none⟩ = some (.int .i64 bx) ∧ W.drew.cell? ⟨w.heap.size + 1, 1, none⟩ = some (.int .i64 bY)) ∧ Below (w.heap.size + 2) W W.drew ∧ w.heap.size + 2 ≤ W.drew.heap.size from ⟨⟨⟨p0, p1⟩, q0, q1⟩, (Below.refl _ _).drew, by show _ ≤ W.heap.size; omega⟩)
    have HK := Lib.hid (And.intro k3 (And.intro bW sW))
    have CL := Lib.hid cL
    have CK := Lib.hid hK
    obtain ⟨hh1, hh2⟩ := hh
    clear cL hK hE hR hl k1 k2 k3 bW sW
    go_enter Tryd.func30, Tryd.ntmps30
    go_wp2_with (rw [hW])
    go_region_held3 (fun w' => ((w'.cell? ⟨w.heap.size, 0, none⟩ = some (.int .i64 ax) ∧ w'.cell? ⟨w.heap.size, 1, none⟩ = some (.int .i64 ay)) ∧ w'.cell? ⟨w.heap.size + 1, 0, none⟩ = some (.int .i64 bx) ∧ w'.cell? ⟨w.heap.size + 1, 1, none⟩ = some (.int .i64 bY)) ∧ Below (w.heap.size + 2) W w' ∧ w.heap.size + 2 ≤ w'.heap.size)
      (first
        | (with_reducible exact HP.out)
        | (with_reducible exact way_call (Nat.le_refl _) (by assumption) b10)
        | (with_reducible exact way_call (Nat.le_refl _) (by assumption) b9)
        | (with_reducible exact way_store (Nat.le_refl _) (by assumption) (Nat.le_refl _) _ _))
      ((first
        | (go_at_call 41; (with_reducible refine Calls.mono (CL.out _) ?_); rintro e w9 ⟨rfl, b9⟩; (have kb : Box w9 (w.heap.size + 2) 34 [.int .i64 0, .int .i64 0] := HK.out.1.below (show Below W.heap.size W w9 from (Below.refl _ W).drew.trans b9) (by rw [HK.out.2.2]; omega)))
        | (go_at_call 40; (with_reducible refine Calls.mono (CK.out _) ?_); rintro e w10 ⟨rfl, b10⟩; (have kc := kb.below b10 kb.lt); obtain ⟨⟨i0, i1⟩, i2, i3⟩ := Box.pair kc)))
    rename_i hHeld
    obtain ⟨-, hB, -⟩ := hHeld
    obtain ⟨V, hV, kV, ⟨x0, x1⟩, -⟩ := kc.stored2 (.int .i64 X) (.int .i64 Y)
    rw [hV] at hB ⊢
    have HB := Lib.hid (HK.out.2.1.trans (hB.mono (by omega)))
    clear hB kc hV
    go_wp2_with fail
    exact bodyPost_ret (by simp [results, Tryd.results30, go_sem, x0, x1]) rfl ⟨rfl, HB.out⟩
  · rw [asideG_no hh]
    obtain ⟨⟨z0, z1⟩, z2, z3⟩ := Box.pair k3
    obtain ⟨V, hV, kV, ⟨x0, x1⟩, bV⟩ := k3.stored2 (.int .i64 0) (.int .i64 0)
    have HB := Lib.hid (bW.trans (bV w.heap.size (by omega)))
    have HV := Lib.hid hV
    obtain ⟨ax, ay⟩ := a
    obtain ⟨bx, bY⟩ := b
    unfold ptV pt0
    dsimp only at *
    clear k1 k2 k3 bW bV hV kV
    by_cases h1 : h < -65536
    · clear hh
      go_enter Tryd.func30, Tryd.ntmps30
      go_wp2_with (rw [hW])
      try rw [HV.out]
      exact bodyPost_ret (by simp [results, Tryd.results30, go_sem, x0, x1]) rfl ⟨rfl, HB.out⟩
    · have h2 : 65536 < h := by omega
      clear hh
      go_enter Tryd.func30, Tryd.ntmps30
      go_wp2_with (rw [hW])
      try rw [HV.out]
      exact bodyPost_ret (by simp [results, Tryd.results30, go_sem, x0, x1]) rfl ⟨rfl, HB.out⟩

set_option maxRecDepth 10000 in
set_option maxHeartbeats 3200000 in
theorem gauge_Ahead (a b : Pt) (h : Int) (hx : (-9223372036854775808 ≤ a.x ∧ a.x ≤ 9223372036854775807) ∧ (-9223372036854775808 ≤ a.y ∧ a.y ≤ 9223372036854775807)) (w : World) :
    Calls Tryd.prog 36 #[ptV a, ptV b, .int .i64 h] w fun e w' => e = .returned (ptV (aheadG a b h)) ∧ Below w.heap.size w w' := by
  obtain ⟨W, hW, k1, k2, k3, bW, sW⟩ := three_boxes w a b
  by_cases hh : 0 ≤ h ∧ h ≤ 33554432
  · have cL := fun V => gauge_Len a b V
    have hK := fun V => gauge_lead (IntKind.i64.wrap (b.x - a.x)) (IntKind.i64.wrap (b.y - a.y)) h (lenG a b : Int) V
    obtain ⟨X, hX⟩ : ∃ X, nearG (IntKind.i64.wrap (IntKind.i64.wrap (b.x - a.x) * h)) (lenG a b : Int) = X := ⟨_, rfl⟩
    obtain ⟨Y, hY⟩ : ∃ X, nearG (IntKind.i64.wrap (IntKind.i64.wrap (b.y - a.y) * h)) (lenG a b : Int) = X := ⟨_, rfl⟩
    have hE : (⟨IntKind.i64.wrap (a.x + X), IntKind.i64.wrap (a.y + Y)⟩ : Pt) = aheadG a b h := by
      by_cases hl : lenG a b = 0
      · rw [hl] at hX hY
        have e1 : X = 0 := by rw [← hX]; exact nearG_zero _
        have e2 : Y = 0 := by rw [← hY]; exact nearG_zero _
        rw [aheadG_zero hl, e1, e2, Int.add_zero, Int.add_zero, IntWalk.i64_in _ hx.1, IntWalk.i64_in _ hx.2]
      · have hf := lenG_fit hl
        have hd := diff_in hf.1 hf.2
        have w1 : IntKind.i64.wrap (b.x - a.x) = b.x - a.x := IntWalk.i64_in _ (by omega)
        have w2 : IntKind.i64.wrap (b.y - a.y) = b.y - a.y := IntWalk.i64_in _ (by omega)
        have m1 := mul_in (x := b.x - a.x) (y := h) (M := 16777214) (N := 33554432) (by omega) (by omega)
        have m2 := mul_in (x := b.y - a.y) (y := h) (M := 16777214) (N := 33554432) (by omega) (by omega)
        have w3 : IntKind.i64.wrap ((b.x - a.x) * h) = (b.x - a.x) * h := IntWalk.i64_in _ (by omega)
        have w4 : IntKind.i64.wrap ((b.y - a.y) * h) = (b.y - a.y) * h := IntWalk.i64_in _ (by omega)
        rw [w1, w3] at hX
        rw [w2, w4] at hY
        have n1 := nearG_in ((b.x - a.x) * h) (lenG a b : Int)
        have n2 := nearG_in ((b.y - a.y) * h) (lenG a b : Int)
        rw [hX] at n1
        rw [hY] at n2
        have f1 := hf.1
        unfold FitP at f1
        rw [IntWalk.i64_in (a.x + X) (by omega), IntWalk.i64_in (a.y + Y) (by omega)]
        unfold aheadG leadG
        rw [if_pos hh]
        dsimp only
        rw [hX, hY]
    rw [hX, hY] at hK
    obtain ⟨R, hR⟩ : ∃ R, aheadG a b h = R := ⟨_, rfl⟩
    rw [hR] at hE ⊢
    obtain ⟨l, hl⟩ : ∃ l, lenG a b = l := ⟨_, rfl⟩
    rw [hl] at hK
    simp only [hl] at cL
    subst hE
    obtain ⟨ax, ay⟩ := a
    obtain ⟨bx, bY⟩ := b
    unfold ptV at *
    dsimp only at *
    obtain ⟨⟨p0, p1⟩, -⟩ := Box.pair k1
    obtain ⟨⟨q0, q1⟩, -⟩ := Box.pair k2
    obtain ⟨⟨z0, z1⟩, z2, z3⟩ := Box.pair k3
    have HP := Lib.hid (show ((W.drew.cell? ⟨w.heap.size, 0, none⟩ = some (.int .i64 ax) ∧ W.drew.cell? ⟨w.heap.size, 1, none⟩ = some (.int .i64 ay)) ∧ W.drew.cell? ⟨w.heap.size + 1, 0, none⟩ = some (.int .i64 bx) ∧ W.drew.cell? ⟨w.heap.size + 1, 1, none⟩ = some (.int .i64 bY)) ∧ Below (w.heap.size + 3) W W.drew ∧ w.heap.size + 3 ≤ W.drew.heap.size from ⟨⟨⟨p0, p1⟩, q0, q1⟩, (Below.refl _ _).drew, by show _ ≤ W.heap.size; omega⟩)
    have HK := Lib.hid (And.intro k1 (And.intro k3 (And.intro bW sW)))
    have CL := Lib.hid cL
    have CK := Lib.hid hK
    obtain ⟨hh1, hh2⟩ := hh
    have hsW : w.heap.size + 3 ≤ W.heap.size := by omega
    have hN : w.heap.size + 2 ≤ w.heap.size + 3 := by omega
    have HA := Lib.hid (fun o => way_call (V := W) (V' := (W.alloc o).drew) hN ⟨⟨⟨p0, p1⟩, q0, q1⟩, Below.refl (w.heap.size + 3) W, hsW⟩ (below_new W o).drew)
    clear cL hK hX hY hR hl k1 k2 k3 bW sW hx z0 z1 z2 z3
    obtain ⟨P, hP⟩ : ∃ P, IntKind.i64.wrap (ax + X) = P := ⟨_, rfl⟩
    obtain ⟨Q, hQ⟩ : ∃ P, IntKind.i64.wrap (ay + Y) = P := ⟨_, rfl⟩
    rw [hP, hQ]
    go_enter Tryd.func36, Tryd.ntmps36
    go_wp2_with (rw [hW])
    go_region_held3 (fun w' => ((w'.cell? ⟨w.heap.size, 0, none⟩ = some (.int .i64 ax) ∧ w'.cell? ⟨w.heap.size, 1, none⟩ = some (.int .i64 ay)) ∧ w'.cell? ⟨w.heap.size + 1, 0, none⟩ = some (.int .i64 bx) ∧ w'.cell? ⟨w.heap.size + 1, 1, none⟩ = some (.int .i64 bY)) ∧ Below (w.heap.size + 3) W w' ∧ w.heap.size + 3 ≤ w'.heap.size)
      (first
        | (with_reducible exact HP.out)
        | (with_reducible exact way_call hN (by assumption) b10)
        | (with_reducible exact way_call hN (by assumption) b9)
        | (with_reducible exact HA.out _)
        | (with_reducible exact way_alloc hN (by assumption) _)
        | (with_reducible exact way_alloc hN (way_call hN (way_call hN HP.out b9) b10) _)
        | (with_reducible exact way_store hN (by assumption) hsW _ _)
        | (with_reducible exact way_store hN (by assumption) s9 _ _)
        | (with_reducible exact way_store hN (by assumption) s10 _ _))
      ((first
        | (go_at_call 41; (with_reducible refine Calls.mono (CL.out _) ?_); rintro e w9 ⟨rfl, b9⟩; (have s9 : w.heap.size + 3 ≤ w9.heap.size := by (have z9 := b9.size; (try simp at z9); omega)); (try (have kb := fresh2d b9; obtain ⟨⟨i0, i1⟩, i2, i3⟩ := Box.pair kb)))
        | (go_at_call 40; (with_reducible refine Calls.mono (CK.out _) ?_); rintro e w10 ⟨rfl, b10⟩; (have s10 : w.heap.size + 3 ≤ w10.heap.size := by (have z9 := b10.size; (try simp at z9); omega)); (try first | (have kc := fresh2 b10; obtain ⟨⟨j0, j1⟩, j2, j3⟩ := Box.pair kc) | (have kc := kb.below b10 kb.lt; obtain ⟨⟨j0, j1⟩, j2, j3⟩ := Box.pair kc)))))
    all_goals
      rename_i hHeld
      first
        | (obtain ⟨V, hV, kV, -, -⟩ := kc.stored2 (.int .i64 X) (.int .i64 Y); rw [hV] at hHeld ⊢; clear kc hV)
        | (obtain ⟨V, hV, kV, -⟩ := endP w10 34 (.int .i64 X) (.int .i64 Y); rw [hV] at hHeld ⊢; clear hV)
      obtain ⟨⟨⟨a0, a1⟩, -⟩, hB, -⟩ := hHeld
      obtain ⟨⟨x0, x1⟩, -⟩ := Box.pair kV
      have kz := HK.out.2.1.below hB (by omega)
      obtain ⟨⟨z0, z1⟩, z2, z3⟩ := Box.pair kz
      obtain ⟨U, hU, kU, ⟨u0, u1⟩, bU⟩ := kz.stored2 (.int .i64 P) (.int .i64 Q)
      have HB := Lib.hid (HK.out.2.2.1.trans ((hB.mono (by omega)).trans (bU w.heap.size (by omega))))
      clear hB kV kz kU bU
      go_wp2_with fail
      try rw [hU]
      exact bodyPost_ret (by simp [results, Tryd.results36, go_sem, u0, u1]) rfl ⟨rfl, HB.out⟩
  · rw [aheadG_no hh]
    obtain ⟨⟨p0, p1⟩, -⟩ := Box.pair k1
    obtain ⟨⟨z0, z1⟩, z2, z3⟩ := Box.pair k3
    obtain ⟨V, hV, kV, ⟨x0, x1⟩, bV⟩ := k3.stored2 (.int .i64 a.x) (.int .i64 a.y)
    have HB := Lib.hid (bW.trans (bV w.heap.size (by omega)))
    have HV := Lib.hid hV
    obtain ⟨ax, ay⟩ := a
    obtain ⟨bx, bY⟩ := b
    unfold ptV
    dsimp only at *
    clear k1 k2 k3 bW bV hV kV
    by_cases h1 : h < 0
    · clear hh
      go_enter Tryd.func36, Tryd.ntmps36
      go_wp2_with (rw [hW])
      try rw [HV.out]
      exact bodyPost_ret (by simp [results, Tryd.results36, go_sem, x0, x1]) rfl ⟨rfl, HB.out⟩
    · have h2 : 33554432 < h := by omega
      clear hh
      go_enter Tryd.func36, Tryd.ntmps36
      go_wp2_with (rw [hW])
      try rw [HV.out]
      exact bodyPost_ret (by simp [results, Tryd.results36, go_sem, x0, x1]) rfl ⟨rfl, HB.out⟩
end Go.Proofs.YtngnclibeccplaaDoor
/- Lengths, the document's own: Root, Len, Fits. -/

namespace Go.Proofs.YtngnclibeccplaaDoor
open Go.RowKit Num

theorem one_wordG {xs : List Nat} (hn : Norm 4294967296 xs) (h : val 4294967296 xs < 4294967296) : xs = [] ∨ ∃ d, xs = [d] := by
  have hl : xs.length ≤ 1 := hn.2.length_le (b := 4294967296) (by omega) (by rw [Nat.pow_one]; exact h)
  match xs, hl with
  | [], _ => exact .inl rfl
  | [d], _ => exact .inr ⟨d, rfl⟩
set_option maxRecDepth 10000 in
set_option maxHeartbeats 1600000 in
theorem ref14_Fits (L : List Pt) (A : Option Addr) (c : Nat) (w : World) (hL : RdV w w.heap.size A (ptRow L)) (hl : L.length ≤ 1073741824) :
    Calls Tryd.prog 14 #[.slice A L.length c] w fun e w' => e = .returned (.bool (decide (FitL L))) ∧ Below w.heap.size w w' := by
  obtain ⟨n, hn⟩ : ∃ n, L.length = n := ⟨_, rfl⟩
  have HN := Lib.hid hn
  have HL := Lib.hid hL
  rw [hn] at hl ⊢
  obtain ⟨r, hr⟩ : ∃ r : Bool, decide (FitL L) = r := ⟨_, rfl⟩
  have HR := Lib.hid hr
  rw [hr]
  clear hn hL hr
  go_enter Tryd.func14, Tryd.ntmps14
  go_wp2_with fail
  go_loopg [3] n (fun gh it wr => ∃ i : Nat, it = .int .i64 (i : Int) ∧ gh + i = n ∧ (∀ p ∈ L.take i, FitP p) ∧ Below w.heap.size w wr)
  case atStart => exact ⟨0, rfl, by omega, by simp, Below.refl _ _⟩
  case round =>
    obtain ⟨i, rfl, hg, hok, hB⟩ := hrel
    by_cases hlt : i < n
    · have hlt' : i < L.length := by rw [HN.out]; exact hlt
      obtain ⟨g, o, rfl, hgl, e0, e1⟩ := (HL.out.below hB).pt (i := i) hlt'
      have hil : (i : Int) < (n : Int) := by omega
      obtain ⟨p, hpp⟩ : ∃ p, L[i] = p := ⟨_, rfl⟩
      have HST := Lib.hid (fitL_step hlt' hok)
      have HNO := Lib.hid (fitL_not hlt')
      rw [hpp] at e0 e1 HST HNO
      obtain ⟨d, hd⟩ : ∃ d : Bool, decide (FitP p) = d := ⟨_, rfl⟩
      have cF := fun V => ref10_Fits p V
      rw [hd] at cF
      obtain ⟨x, y⟩ := p
      unfold ptV at cF
      dsimp only at e0 e1 cF
      have CF := Lib.hid cF
      have HB := Lib.hid hB
      have HD := Lib.hid hd
      clear hok hB cF hpp hlt' hd
      cases d with
      | true =>
        have HS := Lib.hid (HST.out (of_decide_eq_true HD.out))
        clear HST HNO
        go_wp2_with (go_at_call 27; with_reducible refine Calls.mono (CF.out _) ?_; rintro e w1 ⟨rfl, b1⟩)
        have hBB := HB.out.trans (b1.mono HB.out.size)
        go_roundg (n - (i + 1))
        case measure => omega
        case rel => exact ⟨i + 1, by simp, by omega, HS.out, hBB⟩
      | false =>
        have HS := Lib.hid (decide_eq_false (HNO.out (of_decide_eq_false HD.out)))
        clear HST HNO
        go_wp2_with (go_at_call 27; with_reducible refine Calls.mono (CF.out _) ?_; rintro e w1 ⟨rfl, b1⟩)
        have hBB := HB.out.trans (b1.mono HB.out.size)
        go_ret
        rw [← HR.out, HS.out]
        exact ⟨rfl, hBB⟩
    · obtain rfl : i = n := by omega
      have HF := Lib.hid (decide_eq_true (fitL_all (l := L) (by rw [HN.out]; exact hok)))
      have HB := Lib.hid hB
      clear hok hB
      go_wp2_with fail
      go_ret
      rw [← HR.out, HF.out]
      exact ⟨rfl, HB.out⟩
end Go.Proofs.YtngnclibeccplaaDoor
/- Lengths, the document's own: the nearest whole number of any quotient; Near. -/

namespace Go.Proofs.YtngnclibeccplaaDoor
open Go.RowKit Num

end Go.Proofs.YtngnclibeccplaaDoor
/- Lengths, the document's own: Aside, Ahead. -/

namespace Go.Proofs.YtngnclibeccplaaDoor
open Go.RowKit

end Go.Proofs.YtngnclibeccplaaDoor
