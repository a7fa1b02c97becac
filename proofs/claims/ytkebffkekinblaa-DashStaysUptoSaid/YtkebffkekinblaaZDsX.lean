/- Lines in pieces, as mathematics: a pattern, the point at a distance, a piece, what is drawn. No program is named here. -/
import Derived.Test.YtkebffkekinblaaZGaW
import Derived.Test.YtkebffkekinblaaZOaJ
import Derived.Test.YtkebffkekinblaaZGcY
import Derived.Test.YtkebffkekinblaaZOaB
namespace Go.Proofs.Ytkebffkekinblaa
open Num

/-- a line's points, of a closed one the first one again -/
def ringP (l : List Pt) (c : Bool) : List Pt := if c = true then rimG l else l
theorem ringP_open (l : List Pt) : ringP l false = l := rfl
theorem ringP_closed (l : List Pt) : ringP l true = rimG l := rfl
theorem ringP_nil (c : Bool) : ringP [] c = [] := by cases c <;> rfl
theorem rimG_le (l : List Pt) : (rimG l).length ≤ l.length + 1 := by
  unfold rimG
  simp
  omega
theorem ringP_le (l : List Pt) (c : Bool) : l.length ≤ (ringP l c).length ∧ (ringP l c).length ≤ l.length + 1 := by
  cases c
  · simp [ringP]
  · have := rimG_le l
    refine ⟨?_, this⟩
    show l.length ≤ (rimG l).length
    unfold rimG
    simp
theorem ringP_empty {l : List Pt} {c : Bool} : ringP l c = [] ↔ l = [] := by
  constructor
  · intro h
    have := (ringP_le l c).1
    rw [h] at this
    exact List.eq_nil_of_length_eq_zero (by simpa using this)
  · rintro rfl
    exact ringP_nil c
theorem fitL_ring {l : List Pt} {c : Bool} : FitL (ringP l c) ↔ FitL l := by
  constructor
  · intro h p hp
    refine h p ?_
    cases c
    · exact hp
    · exact List.mem_append.2 (.inl hp)
  · intro h
    cases c
    · exact h
    · exact fitL_rim h
theorem ringP_first {l : List Pt} {c : Bool} (h : 0 < l.length) : (ringP l c).getD 0 pt0 = l.getD 0 pt0 := by
  cases c
  · rfl
  · exact getD_appendL h
theorem longM_ring {l : List Pt} (h : FitL l) (c : Bool) : longM l c = chainTo (ringP l c) ((ringP l c).length - 1) := by
  cases c with
  | false => exact longM_open h
  | true =>
    rcases Nat.eq_zero_or_pos l.length with h0 | h0
    · obtain rfl := List.eq_nil_of_length_eq_zero h0
      rw [longM_nil]; rfl
    · rw [longM_closed h h0, ringP_closed, rimG_length h0, Nat.add_sub_cancel]
/-- which patterns may be -/
def MayD (P : List Int) (h : Int) : Prop := P.length ≤ 8 ∧ (0 ≤ h ∧ h ≤ 8388607) ∧ ∀ x ∈ P, 1 ≤ x ∧ x ≤ 8388607
instance (P : List Int) (h : Int) : Decidable (MayD P h) := by unfold MayD; exact inferInstance
def pattP (P : List Int) : List Int := if P.length % 2 = 1 then P ++ P else P
theorem pattP_le (P : List Int) : (pattP P).length ≤ 2 * P.length := by
  unfold pattP
  split
  · simp; omega
  · omega
theorem pattP_mem {P : List Int} {x : Int} : x ∈ pattP P ↔ x ∈ P := by
  unfold pattP
  split <;> simp
theorem pattP_nil : pattP [] = [] := rfl
theorem pattP_pos {P : List Int} (h : 0 < P.length) : 0 < (pattP P).length := by
  unfold pattP
  split
  · simp; omega
  · exact h
def sumTo (l : List Int) : Nat → Int
  | 0 => 0
  | i + 1 => sumTo l i + l.getD i 0
theorem getD_memI {l : List Int} {i : Nat} (h : i < l.length) : l.getD i 0 ∈ l := by
  have : l.getD i 0 = l[i] := by simp [List.getD, List.getElem?_eq_getElem h]
  rw [this]
  exact List.getElem_mem h
theorem sumTo_in {l : List Int} (h : ∀ x ∈ l, 1 ≤ x ∧ x ≤ 8388607) : ∀ i : Nat, i ≤ l.length → (i : Int) ≤ sumTo l i ∧ sumTo l i ≤ 8388607 * (i : Int)
  | 0, _ => by simp [sumTo]
  | i + 1, hi => by
    have h1 := sumTo_in h i (by omega)
    have h2 := h _ (getD_memI (show i < l.length by omega))
    simp only [sumTo]
    omega
def totalP (P : List Int) : Int := sumTo (pattP P) (pattP P).length
theorem totalP_in {P : List Int} {h : Int} (hm : MayD P h) : 0 ≤ totalP P ∧ totalP P ≤ 134217712 := by
  have h1 := pattP_le P
  have h2 := sumTo_in (l := pattP P) (fun x hx => hm.2.2 x (pattP_mem.1 hx)) _ (Nat.le_refl _)
  have h3 := hm.1
  unfold totalP
  omega
theorem totalP_pos {P : List Int} {h : Int} (hm : MayD P h) (hp : 0 < P.length) : 1 ≤ totalP P := by
  have h1 := pattP_pos hp
  have h2 := sumTo_in (l := pattP P) (fun x hx => hm.2.2 x (pattP_mem.1 hx)) _ (Nat.le_refl _)
  unfold totalP
  omega
/-- the point at a distance -/
def walkM (z : Pt) : List Pt → Int → Pt
  | a :: b :: r, n => if 0 < (lenG a b : Int) ∧ n ≤ (lenG a b : Int) then aheadG a b n else walkM z (b :: r) (n - (lenG a b : Int))
  | _, _ => z
def atM (l : List Pt) (c : Bool) (n : Int) : Pt := walkM ((ringP l c).getD 0 pt0) (ringP l c) n
def AtOk (l : List Pt) (c : Bool) (n : Int) : Prop := 0 < l.length ∧ FitL l ∧ 0 ≤ n ∧ n ≤ longM l c
instance (l : List Pt) (c : Bool) (n : Int) : Decidable (AtOk l c n) := by unfold AtOk; exact inferInstance
theorem drop_two {p : List Pt} {i : Nat} (h : i + 1 < p.length) : p.drop i = p.getD i pt0 :: p.getD (i + 1) pt0 :: p.drop (i + 2) := by
  rw [List.drop_eq_getElem_cons (show i < p.length by omega), List.drop_eq_getElem_cons h, getD_lt (show i < p.length by omega), getD_lt h]
theorem drop_one {p : List Pt} {i : Nat} (h : i < p.length) : p.drop i = p.getD i pt0 :: p.drop (i + 1) := by
  rw [List.drop_eq_getElem_cons h, getD_lt h]
theorem walk_hit {z : Pt} {p : List Pt} {i : Nat} {n : Int} (h : i + 1 < p.length) (hk : 0 < (lenG (p.getD i pt0) (p.getD (i + 1) pt0) : Int) ∧ n ≤ (lenG (p.getD i pt0) (p.getD (i + 1) pt0) : Int)) : walkM z (p.drop i) n = aheadG (p.getD i pt0) (p.getD (i + 1) pt0) n := by
  rw [drop_two h]
  show (if _ then _ else _) = _
  rw [if_pos hk]
theorem walk_on {z : Pt} {p : List Pt} {i : Nat} {n : Int} (h : i + 1 < p.length) (hk : ¬ (0 < (lenG (p.getD i pt0) (p.getD (i + 1) pt0) : Int) ∧ n ≤ (lenG (p.getD i pt0) (p.getD (i + 1) pt0) : Int))) : walkM z (p.drop i) n = walkM z (p.drop (i + 1)) (n - (lenG (p.getD i pt0) (p.getD (i + 1) pt0) : Int)) := by
  rw [drop_two h]
  show (if _ then _ else _) = _
  rw [if_neg hk, drop_one h]
theorem walk_end {z : Pt} {p : List Pt} {i : Nat} {n : Int} (h : p.length ≤ i + 1) : walkM z (p.drop i) n = z := by
  have hl : (p.drop i).length ≤ 1 := by rw [List.length_drop]; omega
  match hd : p.drop i, hl with
  | [], _ => rfl
  | [a], _ => rfl
/-- a line's points whose distance is between -/
def midsTo (p : List Pt) (a b : Int) : Nat → List Pt
  | 0 => []
  | i + 1 => if a < chainTo p i ∧ chainTo p i < b then midsTo p a b i ++ [p.getD i pt0] else midsTo p a b i
theorem midsTo_le (p : List Pt) (a b : Int) : ∀ i, (midsTo p a b i).length ≤ i
  | 0 => Nat.le_refl _
  | i + 1 => by
    have h := midsTo_le p a b i
    unfold midsTo
    split
    · rw [List.length_append]; simp; exact h
    · omega
/-- a piece, from a distance to another one -/
def rawP (l : List Pt) (c : Bool) (a b : Int) : List Pt := [if AtOk l c a then atM l c a else pt0] ++ midsTo (ringP l c) a b ((ringP l c).length - 1) ++ [if AtOk l c b then atM l c b else pt0]
def pieceP (l : List Pt) (c : Bool) (a b : Int) : List Pt := onceM (rawP l c a b)
theorem rawP_le (l : List Pt) (c : Bool) (a b : Int) : (rawP l c a b).length ≤ l.length + 2 := by
  have h1 := midsTo_le (ringP l c) a b ((ringP l c).length - 1)
  have h2 := (ringP_le l c).2
  unfold rawP
  simp
  omega
theorem pieceP_le (l : List Pt) (c : Bool) (a b : Int) : (pieceP l c a b).length ≤ l.length + 2 := Nat.le_trans (onceTo_le _ _) (rawP_le l c a b)
/-- what is drawn, length by length -/
def cutStep (l : List Pt) (c : Bool) (e : Int) (k : Nat) (at0 at1 : Int) (out : List Ln) : List Ln :=
  if k % 2 = 0 ∧ 1 < (pieceP l c (max at0 0) (min at1 e)).length then out ++ [⟨pieceP l c (max at0 0) (min at1 e), false⟩] else out
def cutGo (p : List Int) (l : List Pt) (c : Bool) (e : Int) : Nat → Nat → Int → Nat → List Ln → List Ln × Int
  | 0, _, _, _, out => (out, 0)
  | f + 1, k, at0, n, out =>
    if at0 < e then
      if 0 < at0 + p.getD (k % p.length) 0 then
        if 1000 < n + 1 then ([], 7) else cutGo p l c e f (k + 1) (at0 + p.getD (k % p.length) 0) (n + 1) (cutStep l c e k at0 (at0 + p.getD (k % p.length) 0) out)
      else cutGo p l c e f (k + 1) (at0 + p.getD (k % p.length) 0) n out
    else (out, 0)
def cutM (l : List Pt) (c : Bool) (P : List Int) (h : Int) : List Ln × Int :=
  if ¬ MayD P h then ([], 2) else if ¬ FitL l then ([], 4) else if P = [] then ([⟨l, c⟩], 0)
  else cutGo (pattP P) l c (longM l c) 2000 0 (-(h % totalP P)) 0 []
end Go.Proofs.Ytkebffkekinblaa
/- Lines in pieces, the document's own: May, Pattern, Total. -/

namespace Go.Proofs.Ytkebffkekinblaa
open Go.RowKit

theorem mayD_step {P : List Int} {i : Nat} (hi : i < P.length) (h : ∀ x ∈ P.take i, 1 ≤ x ∧ x ≤ 8388607) (hx : 1 ≤ P[i] ∧ P[i] ≤ 8388607) : ∀ x ∈ P.take (i + 1), 1 ≤ x ∧ x ≤ 8388607 := by
  intro x hm
  rw [List.take_succ_eq_append_getElem hi, List.mem_append] at hm
  rcases hm with hm | hm
  · exact h x hm
  · simp at hm; subst hm; exact hx
theorem mayD_not {P : List Int} {h : Int} {i : Nat} (hi : i < P.length) (hx : ¬ (1 ≤ P[i] ∧ P[i] ≤ 8388607)) : ¬ MayD P h := fun k => hx (k.2.2 _ (List.getElem_mem hi))

set_option maxRecDepth 10000 in
set_option maxHeartbeats 3200000 in
theorem ref15_May (P : List Int) (A : Option Addr) (c : Nat) (h : Int) (w : World) (hP : RdV w w.heap.size A (icells P)) (hl : P.length ≤ 4611686018427387904) :
    Calls Try.prog 12 #[.slice A P.length c, .int .i64 h] w fun e w' => e = .returned (.bool (decide (MayD P h))) ∧ w = w' := by
  obtain ⟨n, hn⟩ : ∃ n, P.length = n := ⟨_, rfl⟩
  have HN := Lib.hid hn
  obtain ⟨r, hr⟩ : ∃ r : Bool, decide (MayD P h) = r := ⟨_, rfl⟩
  have HR := Lib.hid hr
  rw [hn] at hl ⊢
  rw [hr]
  by_cases hbase : n ≤ 8 ∧ 0 ≤ h ∧ h ≤ 8388607
  · obtain ⟨b1, b2, b3⟩ := hbase
    have b1' : (n : Int) ≤ 8 := by omega
    clear hn hr
    go_enter Try.func12, Try.ntmps12
    go_wp2_with fail
    go_loopg [5, 6] n (fun gh okv it wr => ∃ (i : Nat) (b : Bool), it = .int .i64 (i : Int) ∧ okv = .bool b ∧ gh + i = n ∧ (b = true → ∀ x ∈ P.take i, 1 ≤ x ∧ x ≤ 8388607) ∧ (b = false → ¬ MayD P h) ∧ wr = w)
    case atStart => exact ⟨0, true, rfl, rfl, by omega, fun _ => by simp, (fun h => by cases h), rfl⟩
    case round =>
      obtain ⟨i, b, rfl, rfl, hg, ht, hf, rfl⟩ := hrel
      have hwi : IntKind.i64.wrap ((i : Int) + 1) = (i : Int) + 1 := IntWalk.i64_in _ (by omega)
      have HT := Lib.hid ht
      have HF := Lib.hid hf
      have HG := Lib.hid hg
      clear ht hf hg
      by_cases hlt : i < n
      · have hlt' : i < P.length := by rw [HN.out]; exact hlt
        obtain ⟨g, o, rfl, hgl, e0⟩ := hP.num (i := i) hlt'
        have hil : (i : Int) < (n : Int) := by omega
        cases b with
        | false =>
          have HX := Lib.hid (HF.out rfl)
          clear HT HF e0 hlt'
          go_wp2_with fail
          go_roundg (n - (i + 1))
          case measure => have := HG.out; omega
          case rel => exact ⟨i + 1, false, by simp, rfl, by have := HG.out; omega, (fun h => by cases h), fun _ => HX.out, rfl⟩
        | true =>
          have HST := Lib.hid (mayD_step hlt' (HT.out rfl))
          have HNO := Lib.hid (mayD_not (h := h) hlt')
          obtain ⟨x, hx⟩ : ∃ x, P[i] = x := ⟨_, rfl⟩
          rw [hx] at e0 HST HNO
          clear HT HF hlt' hx
          by_cases h1 : 1 ≤ x
          · by_cases h2 : x ≤ 8388607
            · have HX := Lib.hid (HST.out ⟨h1, h2⟩)
              clear HST HNO
              go_wp2_with fail
              go_roundg (n - (i + 1))
              case measure => have := HG.out; omega
              case rel => exact ⟨i + 1, true, by simp, rfl, by have := HG.out; omega, fun _ => HX.out, (fun h => by cases h), rfl⟩
            · have HX := Lib.hid (HNO.out (fun k => h2 k.2))
              clear HST HNO
              go_wp2_with fail
              go_roundg (n - (i + 1))
              case measure => have := HG.out; omega
              case rel => exact ⟨i + 1, false, by simp, rfl, by have := HG.out; omega, (fun h => by cases h), fun _ => HX.out, rfl⟩
          · have HX := Lib.hid (HNO.out (fun k => h1 k.1))
            clear HST HNO
            go_wp2_with fail
            go_roundg (n - (i + 1))
            case measure => have := HG.out; omega
            case rel => exact ⟨i + 1, false, by simp, rfl, by have := HG.out; omega, (fun h => by cases h), fun _ => HX.out, rfl⟩
      · obtain rfl : i = n := by have := HG.out; omega
        have HE := Lib.hid (show r = b from by
          rw [← HR.out]
          cases b with
          | true => exact decide_eq_true ⟨by rw [HN.out]; exact b1, ⟨b2, b3⟩, fun x hx => HT.out rfl x (by rw [← HN.out, List.take_length]; exact hx)⟩
          | false => exact decide_eq_false (HF.out rfl))
        clear HT HF
        go_wp2_with fail
        go_ret
        exact ⟨by rw [HE.out]; rfl, rfl⟩
  · obtain rfl : r = false := by
      rw [← hr]
      exact decide_eq_false (fun k => hbase ⟨by have := k.1; omega, k.2.1⟩)
    clear hn hr
    rcases (show ¬ n ≤ 8 ∨ (n ≤ 8 ∧ ¬ 0 ≤ h) ∨ (n ≤ 8 ∧ 0 ≤ h ∧ ¬ h ≤ 8388607) from by omega) with b1 | ⟨b1, b2⟩ | ⟨b1, b2, b3⟩
    all_goals
      have b1' : ¬ (n : Int) ≤ 8 ∨ (n : Int) ≤ 8 := by omega
      (try have b4 : (n : Int) ≤ 8 := by omega)
      (try have b5 : ¬ (n : Int) ≤ 8 := by omega)
      clear hbase b1'
      go_enter Try.func12, Try.ntmps12
      go_wp2_with fail
      go_loopg [5, 6] n (fun gh okv it wr => ∃ i : Nat, it = .int .i64 (i : Int) ∧ okv = .bool false ∧ gh + i = n ∧ wr = w)
      case atStart => exact ⟨0, rfl, rfl, by omega, rfl⟩
      case round =>
        obtain ⟨i, rfl, rfl, hg, rfl⟩ := hrel
        have hwi : IntKind.i64.wrap ((i : Int) + 1) = (i : Int) + 1 := IntWalk.i64_in _ (by omega)
        have HG := Lib.hid hg
        clear hg
        by_cases hlt : i < n
        · have hil : (i : Int) < (n : Int) := by omega
          go_wp2_with fail
          go_roundg (n - (i + 1))
          case measure => have := HG.out; omega
          case rel => exact ⟨i + 1, by simp, rfl, by have := HG.out; omega, rfl⟩
        · obtain rfl : i = n := by have := HG.out; omega
          go_wp2_with fail
          go_ret
          exact ⟨rfl, rfl⟩

theorem info_intG : (Try.prog.info? 3).map (fun i => (i.zero, i.size, i.bytes)) = some (some (.int .i64 0), 1, 8) := by kernel_rfl
theorem icells_append (a b : List Int) : icells (a ++ b) = icells a ++ icells b := by simp [icells]
theorem icells_one (l : List Int) : ∀ u ∈ icells l, u.oneCell' = true := by
  intro u hu
  obtain ⟨x, -, rfl⟩ := List.mem_map.1 hu
  rfl
/-- what Pattern answers -/
def Patted (P : List Int) (w : World) (e : Ending) (w' : World) : Prop := (∃ q k, e = .returned (.slice q (pattP P).length k) ∧ (pattP P).length ≤ k ∧ RdV w' w'.heap.size q (icells (pattP P))) ∧ Below w.heap.size w w'

set_option maxRecDepth 10000 in
set_option maxHeartbeats 3200000 in
theorem ref15_Pattern (P : List Int) (A : Option Addr) (c : Nat) (w : World) (hP : RdV w w.heap.size A (icells P)) (hl : P.length ≤ 1073741824) :
    Calls Try.prog 25 #[.slice A P.length c] w (Patted P w) := by
  cases A with
  | none =>
    have h0 : P = [] := by
      cases P with
      | nil => rfl
      | cons x r =>
        obtain ⟨b, o, e, -⟩ := hP (by simp [icells])
        cases e
    subst h0
    simp only [List.length_nil]
    clear hP hl
    go_enter Try.func25, Try.ntmps25
    go_wp2_with fail
    go_ret
    unfold Patted
    exact ⟨⟨none, 0, rfl, Nat.le_refl _, RdV.nil _ _ _⟩, Below.refl _ _⟩
  | some a =>
    obtain ⟨i0, hi, hz0, hz1, hz2⟩ := info_parts info_intG
    obtain ⟨n, hn⟩ : ∃ n, P.length = n := ⟨_, rfl⟩
    have HN := Lib.hid hn
    have HL := Lib.hid (icells_length P)
    have HP := Lib.hid hP
    have HR := Lib.hid (fun V (hb : Below w.heap.size w V) => show ∀ j u, (icells P)[j]? = some u → V.cell? (a.add j) = some u from by
      intro j u hu
      obtain ⟨h1, rfl⟩ := List.getElem?_eq_some_iff.1 hu
      obtain ⟨b, o, e, hb2, hc⟩ := HP.out (by omega)
      cases e
      rw [addr_add]
      exact (hb.cell (p := ⟨b, o + j, none⟩) hb2).trans (hc j h1))
    have H1 := Lib.hid (icells_one P)
    rw [hn] at hl ⊢
    clear hn hP
    have hmod : ((n : Int)).tmod 2 = ((n % 2 : Nat) : Int) := by rw [Int.tmod_eq_emod_of_nonneg (by omega)]; omega
    have HPT := Lib.hid (show pattP P = if n % 2 = 1 then P ++ P else P from by unfold pattP; rw [HN.out])
    rcases (show n % 2 = 0 ∨ n % 2 = 1 from by omega) with hm | hm
    · rw [hm] at hmod
      have hp : pattP P = P := by rw [HPT.out, if_neg (by omega)]
      have HQ := Lib.hid hp
      clear HPT hp
      go_enter Try.func25, Try.ntmps25
      go_wp2_with (at_builtin; refine wpList_append_own _ rfl _ _ 25 rfl w.heap.size 3 i0 (.int .i64 0) 1 8 Try.underlying25 hi hz0 hz1 hz2 rfl (by decide) (.slice none 0 0) 0 [] rfl (World.ownsRow_nil _ _ _ _) a n c (icells P) rfl (by rw [HL.out, HN.out, Nat.mul_one]) (HR.out _ (Below.refl _ _)) H1.out (by simp [maxLen]; omega) (by omega) (Nat.le_refl _) ?_; intro v' w3 hown' hgrow _; replace hown' := Lib.hid hown'; replace hgrow := Lib.hid hgrow)
      have hBs : Below w.heap.size w w3 := (Below.refl _ _).grown hgrow.out (Nat.le_refl _) (fun k e => by cases e)
      have ho := hown'.out
      rw [Nat.zero_add, List.nil_append] at ho
      obtain ⟨q, k, rfl, hk, -, hr⟩ := RdV.ofOwnK ho
      go_ret
      unfold Patted
      rw [HQ.out, HN.out]
      exact ⟨⟨q, k, rfl, hk, hr⟩, hBs⟩
    · rw [hm] at hmod
      have hp : pattP P = P ++ P := by rw [HPT.out, if_pos hm]
      have HQ := Lib.hid hp
      clear HPT hp
      go_enter Try.func25, Try.ntmps25
      go_wp2_with (at_builtin; first
        | (refine wpList_append_own _ rfl _ _ 25 rfl w.heap.size 3 i0 (.int .i64 0) 1 8 Try.underlying25 hi hz0 hz1 hz2 rfl (by decide) (.slice none 0 0) 0 [] rfl (World.ownsRow_nil _ _ _ _) a n c (icells P) rfl (by rw [HL.out, HN.out, Nat.mul_one]) (HR.out _ (Below.refl _ _)) H1.out (by simp [maxLen]; omega) (by omega) (Nat.le_refl _) ?_; intro v' w3 hown' hgrow _; replace hown' := Lib.hid hown'; replace hgrow := Lib.hid hgrow; have HB3 := Lib.hid (show Below w.heap.size w w3 from (Below.refl _ _).grown hgrow.out (Nat.le_refl _) (fun k e => by cases e)))
        | (refine wpList_append_own _ rfl _ _ 25 rfl w.heap.size 3 i0 (.int .i64 0) 1 8 Try.underlying25 hi hz0 hz1 hz2 rfl (by decide) _ (0 + n) _ rfl hown'.out a n c (icells P) rfl (by rw [HL.out, HN.out, Nat.mul_one]) (HR.out _ HB3.out) H1.out (by simp [maxLen]; omega) (by omega) HB3.out.size ?_; intro v4 w4 hown4 hgrow4 _; replace hown4 := Lib.hid hown4; replace hgrow4 := Lib.hid hgrow4))
      have hBs : Below w.heap.size w w4 := below_grow2 HB3.out hown'.out HB3.out.size hgrow4.out
      have ho := hown4.out
      rw [Nat.zero_add, List.nil_append, ← icells_append] at ho
      obtain ⟨q, k, rfl, hk, -, hr⟩ := RdV.ofOwnK ho
      go_ret
      unfold Patted
      rw [HQ.out, List.length_append, HN.out]
      exact ⟨⟨q, k, rfl, hk, hr⟩, hBs⟩

set_option maxRecDepth 10000 in
set_option maxHeartbeats 1600000 in
theorem ref15_Total (P : List Int) (A : Option Addr) (c : Nat) (h : Int) (hm : MayD P h) (w : World) (hP : RdV w w.heap.size A (icells P)) :
    Calls Try.prog 15 #[.slice A P.length c] w fun e w' => e = .returned (.int .i64 (totalP P)) ∧ Below w.heap.size w w' := by
  have cP := ref15_Pattern P A c w hP (by have := hm.1; omega)
  have hle := pattP_le P
  have h8 := hm.1
  have HS := Lib.hid (fun i (hi : i ≤ (pattP P).length) => sumTo_in (l := pattP P) (fun x hx => hm.2.2 x (pattP_mem.1 hx)) i hi)
  unfold Patted at cP
  have HT := Lib.hid (show totalP P = sumTo (pattP P) (pattP P).length from rfl)
  generalize totalP P = r at HT ⊢
  generalize pattP P = Q at cP hle HS HT
  obtain ⟨n, hn⟩ : ∃ n, Q.length = n := ⟨_, rfl⟩
  have HN := Lib.hid hn
  rw [hn] at cP HT hle
  have CP := Lib.hid cP
  have hn16 : n ≤ 16 := by omega
  clear cP hle h8 hn hP hm
  go_enter Try.func15, Try.ntmps15
  go_wp2_with (go_at_call 25; refine Calls.mono CP.out ?_; rintro e w1 ⟨⟨q, k, rfl, -, hq⟩, b1⟩)
  have HQ := Lib.hid (And.intro hq b1)
  clear hq b1
  go_loopg [3, 5] n (fun gh sv it wr => ∃ i : Nat, it = .int .i64 (i : Int) ∧ sv = .int .i64 (sumTo Q i) ∧ gh + i = n ∧ wr = w1)
  case atStart => exact ⟨0, rfl, rfl, by omega, rfl⟩
  case round =>
    obtain ⟨i, rfl, rfl, hg, rfl⟩ := hrel
    have hwi : IntKind.i64.wrap ((i : Int) + 1) = (i : Int) + 1 := IntWalk.i64_in _ (by omega)
    by_cases hlt : i < n
    · have hlt' : i < Q.length := by rw [HN.out]; exact hlt
      obtain ⟨g, o, rfl, hgl, e0⟩ := HQ.out.1.num (i := i) hlt'
      have hil : (i : Int) < (n : Int) := by omega
      have hst : sumTo Q (i + 1) = sumTo Q i + Q[i] := by
        show sumTo Q i + Q.getD i 0 = _
        rw [show Q.getD i 0 = Q[i] from by simp [List.getD, List.getElem?_eq_getElem hlt']]
      have hb := HS.out (i + 1) (by omega)
      rw [hst] at hb
      have HST := Lib.hid hst
      have hw : IntKind.i64.wrap (sumTo Q i + Q[i]) = sumTo Q i + Q[i] := IntWalk.i64_in _ (by omega)
      generalize Q[i] = x at e0 HST hw
      generalize sumTo Q i = S at HST hw ⊢
      have HG := Lib.hid hg
      clear hst hb hlt' hg
      go_wp2_with fail
      go_roundg (n - (i + 1))
      case measure => have := HG.out; omega
      case rel => exact ⟨i + 1, by simp, by rw [HST.out], by have := HG.out; omega, rfl⟩
    · obtain rfl : i = n := by omega
      clear hg
      go_wp2_with fail
      go_ret
      exact ⟨by rw [HT.out]; rfl, HQ.out.2⟩
end Go.Proofs.Ytkebffkekinblaa
/- Lines in pieces, the document's own: round, At. -/

namespace Go.Proofs.Ytkebffkekinblaa
open Go.RowKit

theorem ptRow_oneD (L : List Pt) : ∀ u ∈ ptRow L, u.oneCell' = true := by
  intro u hu
  obtain ⟨p, -, hp⟩ := List.mem_flatMap.1 hu
  simp only [ptCells, List.mem_cons, List.not_mem_nil, or_false] at hp
  rcases hp with rfl | rfl <;> rfl
/-- a row of points that a call made -/
def Ringed (L : List Pt) (c : Bool) (w : World) (e : Ending) (w' : World) : Prop :=
  (∃ q k, e = .returned (.slice q (ringP L c).length k) ∧ (ringP L c).length ≤ k ∧ RdV w' w'.heap.size q (ptRow (ringP L c)) ∧ ∀ b o, q = some ⟨b, o, none⟩ → w.heap.size ≤ b) ∧ Below w.heap.size w w'

set_option maxRecDepth 10000 in
set_option maxHeartbeats 3200000 in
theorem ref15_round (L : List Pt) (A : Option Addr) (c : Nat) (cl : Bool) (w : World) (hL : RdV w w.heap.size A (ptRow L)) (hl : L.length ≤ 1073741824) :
    Calls Try.prog 29 #[.agg #[.slice A L.length c, .bool cl]] w (Ringed L cl w) := by
  obtain ⟨W, hW, kW, bW⟩ := line_box w (.slice A L.length c) (.bool cl)
  obtain ⟨n, hn⟩ : ∃ n, L.length = n := ⟨_, rfl⟩
  rw [hn] at kW hW
  obtain ⟨⟨p0, p1⟩, -⟩ := Box.pair kW
  cases A with
  | none =>
    have h0 : L = [] := by
      cases L with
      | nil => rfl
      | cons x r =>
        obtain ⟨b, o, e, -⟩ := hL (by rw [ptRow_length]; simp)
        cases e
    subst h0
    simp only [List.length_nil] at hn
    subst hn
    simp only [List.length_nil]
    have HB := Lib.hid bW
    clear hL hl kW bW
    cases cl
    all_goals
      go_enter Try.func29, Try.ntmps29
      go_wp2_with (rw [hW])
      go_ret
      unfold Ringed
      rw [ringP_nil]
      exact ⟨⟨none, 0, rfl, Nat.le_refl _, RdV.nil _ _ _, fun b o e => by cases e⟩, HB.out⟩
  | some a =>
    obtain ⟨i0, hi, hz0, hz1, hz2⟩ := info_parts info_pt
    have HN := Lib.hid hn
    have HL := Lib.hid (ptRow_length L)
    have HV := Lib.hid (hL.on bW)
    have HR := Lib.hid (show ∀ j u, (ptRow L)[j]? = some u → W.cell? (a.add j) = some u from by
      intro j u hu
      obtain ⟨h1, rfl⟩ := List.getElem?_eq_some_iff.1 hu
      obtain ⟨b, o, e, hb2, hc⟩ := HV.out (by omega)
      cases e
      rw [addr_add]
      exact hc j h1)
    have H1 := Lib.hid (ptRow_oneD L)
    have HK := Lib.hid (And.intro kW bW)
    rw [hn] at hl ⊢
    by_cases hc : cl = true ∧ 0 < n
    · obtain ⟨rfl, hp⟩ := hc
      obtain ⟨g, o, hgo, hgl, e0, e1⟩ := HV.out.ptD (i := 0) (by rw [HN.out]; exact hp)
      simp only [Option.some.injEq] at hgo
      subst hgo
      have hrg : ringP L true = L ++ [L.getD 0 pt0] := by rw [ringP_closed, rimG_eq (by rw [HN.out]; exact hp)]
      generalize L.getD 0 pt0 = z at e0 e1 hrg
      obtain ⟨x, y⟩ := z
      dsimp only at e0 e1
      simp only [Nat.zero_mul, Nat.add_zero] at e0 e1
      have HG := Lib.hid hrg
      have hn1 : (0 : Int) < (n : Int) := by omega
      clear hn hL kW bW hrg
      go_enter Try.func29, Try.ntmps29
      go_wp2_with first
        | (rw [hW])
        | (at_builtin; refine wpList_append_own _ rfl _ _ 22 rfl W.heap.size 36 i0 (.agg #[.int .i64 0, .int .i64 0]) 2 16 Try.underlying22 hi hz0 hz1 hz2 rfl (by decide) (.slice none 0 0) 0 [] rfl (World.ownsRow_nil _ _ _ _) ⟨g, o, none⟩ n c (ptRow L) rfl (by rw [HL.out, HN.out]) HR.out H1.out (by simp [maxLen]; omega) (by omega) (Nat.le_refl _) ?_; intro v' w3 hown' hgrow _
           have HB3 := Lib.hid (show Below W.heap.size W w3 from (Below.refl _ _).grown hgrow (Nat.le_refl _) (fun k e => by cases e))
           obtain ⟨⟨p0, p1⟩, -⟩ := Box.pair (HK.out.1.below HB3.out HK.out.1.lt)
           have f0 := (HB3.out.cell (p := ⟨g, o, none⟩) hgl).trans e0
           have f1 := (HB3.out.cell (p := ⟨g, o + 1, none⟩) hgl).trans e1
           have HO := Lib.hid (hown'.alloc (.cells #[.int .i64 x, .int .i64 y] 36))
           have HNW := Lib.hid (two_new w3 36 (.int .i64 x) (.int .i64 y))
           have hs3 : W.heap.size ≤ (w3.alloc (.cells #[.int .i64 x, .int .i64 y] 36)).heap.size := by have := HB3.out.size; simp; omega
           clear hown' hgrow)
        | (at_builtin; refine wpList_append_own _ rfl _ _ 22 rfl W.heap.size 36 i0 (.agg #[.int .i64 0, .int .i64 0]) 2 16 Try.underlying22 hi hz0 hz1 hz2 rfl (by decide) _ (0 + n) _ rfl HO.out ⟨w3.heap.size, 0, none⟩ 1 1 [.int .i64 x, .int .i64 y] rfl rfl HNW.out (by simp [Value.oneCell']) (by simp [maxLen]; omega) (by omega) hs3 ?_; intro v4 w4 hown4 hgrow4 _; replace hown4 := Lib.hid hown4; replace hgrow4 := Lib.hid hgrow4)
      have hBs := below_grow2 (HB3.out.alloc HB3.out.size (.cells #[.int .i64 x, .int .i64 y] 36)) HO.out hs3 hgrow4.out
      have ho := hown4.out
      rw [Nat.zero_add, List.nil_append] at ho
      obtain ⟨q, k, rfl, hk, -, hr⟩ := RdV.ofOwnK ho
      go_ret
      unfold Ringed
      rw [HG.out, ptRow_append, List.length_append, HN.out]
      exact ⟨⟨q, k, rfl, hk, hr, fun b o e => Nat.le_trans HK.out.2.size (ho.lt b (by rw [e]; rfl)).1⟩, HK.out.2.trans (hBs.mono HK.out.2.size)⟩
    · have hrg : ringP L cl = L := by
        cases cl with
        | false => rfl
        | true =>
          have h0 : L.length = 0 := by rw [HN.out]; exact Nat.eq_zero_of_not_pos (fun h => hc ⟨rfl, h⟩)
          obtain rfl := List.eq_nil_of_length_eq_zero h0
          rfl
      have HG := Lib.hid hrg
      have hcc : cl = false ∨ (cl = true ∧ n = 0) := by
        cases cl with
        | false => exact .inl rfl
        | true => exact .inr ⟨rfl, Nat.eq_zero_of_not_pos (fun h => hc ⟨rfl, h⟩)⟩
      clear hn hL kW bW hrg hc
      rcases hcc with rfl | ⟨rfl, rfl⟩
      all_goals
        go_enter Try.func29, Try.ntmps29
        go_wp2_with first
          | (rw [hW])
          | (at_builtin; refine wpList_append_own _ rfl _ _ 22 rfl W.heap.size 36 i0 (.agg #[.int .i64 0, .int .i64 0]) 2 16 Try.underlying22 hi hz0 hz1 hz2 rfl (by decide) (.slice none 0 0) 0 [] rfl (World.ownsRow_nil _ _ _ _) a _ c (ptRow L) rfl (by rw [HL.out, HN.out]) HR.out H1.out (by simp [maxLen]; try omega) (by omega) (Nat.le_refl _) ?_; intro v' w3 hown' hgrow _
             have HB3 := Lib.hid (show Below W.heap.size W w3 from (Below.refl _ _).grown hgrow (Nat.le_refl _) (fun k e => by cases e))
             obtain ⟨⟨p0, p1⟩, -⟩ := Box.pair (HK.out.1.below HB3.out HK.out.1.lt)
             replace hown' := Lib.hid hown'
             clear hgrow)
        have ho := hown'.out
        simp only [Nat.zero_add, List.nil_append] at ho
        obtain ⟨q, k, rfl, hk, -, hr⟩ := RdV.ofOwnK ho
        go_ret
        unfold Ringed
        rw [HG.out, HN.out]
        exact ⟨⟨q, k, rfl, hk, hr, fun b o e => Nat.le_trans HK.out.2.size (ho.lt b (by rw [e]; rfl)).1⟩, HK.out.2.trans (HB3.out.mono HK.out.2.size)⟩
end Go.Proofs.Ytkebffkekinblaa
/- Lines in pieces, the document's own: At. -/

namespace Go.Proofs.Ytkebffkekinblaa
open Go.RowKit

/-- what At answers -/
def AtV (l : List Pt) (c : Bool) (n : Int) : Pt := if AtOk l c n then atM l c n else pt0
theorem AtV_no {l : List Pt} {c : Bool} {n : Int} (h : ¬ AtOk l c n) : AtV l c n = pt0 := if_neg h
theorem AtV_yes {l : List Pt} {c : Bool} {n : Int} (h : AtOk l c n) : AtV l c n = atM l c n := if_pos h
theorem fits_ring (L : List Pt) (c : Bool) : decide (FitL (ringP L c)) = decide (FitL L) := decide_eq_decide.2 fitL_ring

set_option maxRecDepth 10000 in
set_option maxHeartbeats 6400000 in
theorem ref15_At (L : List Pt) (A : Option Addr) (c : Nat) (cl : Bool) (n : Int) (hn : -9223372036854775808 ≤ n ∧ n ≤ 9223372036854775807) (w : World) (hL : RdV w w.heap.size A (ptRow L)) (hl : L.length ≤ 1048577) :
    Calls Try.prog 11 #[.agg #[.slice A L.length c, .bool cl], .int .i64 n] w fun e w' => e = .returned (.tuple #[ptV (AtV L cl n), .bool (decide (AtOk L cl n))]) ∧ Below w.heap.size w w' := by
  obtain ⟨W, hW, kW, kz, bW, sW⟩ : ∃ W, (w.alloc (.cells #[.slice A L.length c, .bool cl] 24)).alloc (.cells #[.int .i64 0, .int .i64 0] 36) = W ∧ Box W w.heap.size 24 [.slice A L.length c, .bool cl] ∧ Box W (w.heap.size + 1) 36 [.int .i64 0, .int .i64 0] ∧ Below w.heap.size w W ∧ W.heap.size = w.heap.size + 2 :=
    ⟨_, rfl, (Box.new w _ [.slice A L.length c, .bool cl]).alloc _, Box.at_new (w.alloc (.cells #[.slice A L.length c, .bool cl] 24)) _ [.int .i64 0, .int .i64 0] (by simp), ((Below.refl _ w).alloc (Nat.le_refl _) _).alloc (by simp) _, by simp⟩
  have HL := Lib.hid (hL.on bW)
  have c1 := fun V (h : Below W.heap.size W V) => ref15_round L A c cl V (HL.out.on h) (by omega)
  have c3 := fun V (h : Below W.heap.size W V) => ref14_Long L A c cl V (HL.out.on h) (by omega)
  have hrl := ringP_le L cl
  have hne := ringP_empty (l := L) (c := cl)
  have c2 := fun q k V (h : RdV V V.heap.size q (ptRow (ringP L cl))) => ref14_Fits (ringP L cl) q k V h (by omega)
  rw [fits_ring] at c2
  unfold Ringed at c1
  have HW := Lib.hid (show atM L cl n = walkM ((ringP L cl).getD 0 pt0) (ringP L cl) n from rfl)
  have HLM := Lib.hid (fun h : FitL L => longM_ring h cl)
  generalize ringP L cl = p at c1 c2 hrl hne HW HLM
  obtain ⟨m, hm⟩ : ∃ m, p.length = m := ⟨_, rfl⟩
  have HM := Lib.hid hm
  rw [hm] at c1 c2 hrl
  obtain ⟨nl, hnl⟩ : ∃ nl, L.length = nl := ⟨_, rfl⟩
  have HNL := Lib.hid hnl
  rw [hnl] at c1 c3 hrl hl kW hW ⊢
  obtain ⟨⟨p0, p1⟩, -⟩ := Box.pair kW
  have HK := Lib.hid (And.intro kW (And.intro kz (And.intro bW sW)))
  obtain ⟨lg, hlg⟩ : ∃ g, longM L cl = g := ⟨_, rfl⟩
  rw [hlg] at c3
  have C1 := Lib.hid c1
  have C2 := Lib.hid c2
  have C3 := Lib.hid c3
  have HOK := Lib.hid (show AtOk L cl n ↔ 0 < nl ∧ FitL L ∧ 0 ≤ n ∧ n ≤ lg from by unfold AtOk; rw [hnl, hlg])
  have HLG := Lib.hid hlg
  clear c1 c2 c3 hL hm hnl kW kz bW sW hlg
  by_cases hok : 0 < nl ∧ FitL L ∧ 0 ≤ n ∧ n ≤ lg
  · obtain ⟨h1, h2, h3, h4⟩ := hok
    have hAt := HOK.out.2 ⟨h1, h2, h3, h4⟩
    have hval := AtV_yes hAt
    rw [HW.out] at hval
    have HV := Lib.hid hval
    have hd : decide (AtOk L cl n) = true := decide_eq_true hAt
    rw [hd]
    rw [decide_eq_true h2] at C2
    have hlm := HLM.out h2
    rw [HLG.out] at hlm
    have hch := chainTo_in p (p.length - 1)
    rw [← hlm] at hch
    have hm0 : 0 < m := by omega
    have hmz : ((m : Int) == 0) = false := by simp; omega
    have hn3 : ¬ n < 0 := by omega
    have hn4 : ¬ lg < n := by omega
    have hmm := HM.out
    have hnb : n ≤ 35185445797888 := by omega
    clear hAt hval hd hlm hch hne HW HLM HLG HOK hmm
    go_enter Try.func11, Try.ntmps11
    go_wp2_with first
      | (rw [hW])
      | (go_at_call 29; (with_reducible refine Calls.mono (C1.out _ (Below.refl _ _)) ?_); rintro e w1 ⟨⟨q, k, rfl, -, hq, hfr⟩, b1⟩
         have HFR := Lib.hid hfr
         have G1 := Lib.hid b1
         have Q1 := Lib.hid hq
         clear b1 hq hfr)
      | (go_at_call 24; (with_reducible refine Calls.mono (C2.out _ _ _ Q1.out) ?_); rintro e w2 ⟨rfl, b2⟩
         have G2 := Lib.hid (G1.out.trans (b2.mono G1.out.size))
         have Q2 := Lib.hid (Q1.out.on b2)
         obtain ⟨⟨p0, p1⟩, -⟩ := Box.pair (HK.out.1.below G2.out HK.out.1.lt)
         clear b2)
      | (go_at_call 17; (with_reducible refine Calls.mono (C3.out _ G2.out) ?_); rintro e w3 ⟨rfl, b3⟩
         have G3 := Lib.hid (G2.out.trans (b3.mono G2.out.size))
         have Q3 := Lib.hid (Q2.out.on b3)
         clear b3)
    go_loopg [1, 7] m (fun gh nv it wr => ∃ i : Nat, it = .int .i64 (i : Int) ∧ nv = .int .i64 (n - chainTo p i) ∧ gh + i = m ∧ i ≤ m - 1 ∧ AtV L cl n = walkM (p.getD 0 pt0) (p.drop i) (n - chainTo p i) ∧ Below W.heap.size W wr ∧ RdV wr wr.heap.size q (ptRow p))
    case atStart => exact ⟨0, rfl, by simp [chainTo], by omega, by omega, by rw [HV.out]; simp [chainTo], G3.out, Q3.out⟩
    case round =>
      obtain ⟨i, rfl, rfl, hg, hi, hwk, hB, hQ⟩ := hrel
      have hwi : IntKind.i64.wrap ((i : Int) + 1) = (i : Int) + 1 := IntWalk.i64_in _ (by omega)
      have kz := HK.out.2.1.below hB HK.out.2.1.lt
      obtain ⟨⟨z0, z1⟩, z2, z3⟩ := Box.pair kz
      by_cases hlt : i + 1 < m
      · have hlt' : i + 1 < p.length := by rw [HM.out]; exact hlt
        obtain ⟨g, o, rfl, hgl, e0, e1⟩ := hQ.ptD (i := i) (by omega)
        obtain ⟨g', o', hgo, -, e2, e3⟩ := hQ.ptD (i := i + 1) hlt'
        cases hgo
        have hst := chain_next p i
        have hcb := chainTo_in p i
        have hhit := walk_hit (z := p.getD 0 pt0) (n := n - chainTo p i) hlt'
        have hon := walk_on (z := p.getD 0 pt0) (n := n - chainTo p i) hlt'
        have cL := fun V => ref14_Len (p.getD i pt0) (p.getD (i + 1) pt0) V
        have cH := fun V => ref14_Ahead (p.getD i pt0) (p.getD (i + 1) pt0) (n - chainTo p i) V
        have hll := lenG_lt (p.getD i pt0) (p.getD (i + 1) pt0)
        generalize lenG (p.getD i pt0) (p.getD (i + 1) pt0) = l at hst cL hll hhit hon
        obtain ⟨H, hH⟩ : ∃ H, aheadG (p.getD i pt0) (p.getD (i + 1) pt0) (n - chainTo p i) = H := ⟨_, rfl⟩
        rw [hH] at cH hhit
        generalize p.getD i pt0 = q0 at e0 e1 cL cH
        generalize p.getD (i + 1) pt0 = q1 at e2 e3 cL cH
        obtain ⟨x0, y0⟩ := q0
        obtain ⟨x1, y1⟩ := q1
        obtain ⟨X, Y⟩ := H
        obtain ⟨S, hS⟩ : ∃ S, n - chainTo p i = S := ⟨_, rfl⟩
        have hSb : -35185445797888 - 35185445797888 ≤ S ∧ S ≤ 35185445797888 := by omega
        have hnx : n - chainTo p (i + 1) = S - (l : Int) := by rw [hst]; omega
        rw [hS] at hwk cH hhit hon ⊢
        have hws : IntKind.i64.wrap (S - (l : Int)) = S - (l : Int) := IntWalk.i64_in _ (by omega)
        have i0 : (i : Int) + 1 < (m : Int) := by omega
        have i2 : (i : Int) < (m : Int) := by omega
        have i3 : i < m := by omega
        have i1 : 0 ≤ (i : Int) + 1 ∧ (i : Int) + 1 < (m : Int) := by omega
        have t1 : ((i : Int) + 1).toNat = i + 1 := by omega
        unfold ptV at cL cH
        dsimp only at e0 e1 e2 e3 cL cH
        have CL := Lib.hid cL
        have CH := Lib.hid cH
        have HB := Lib.hid (And.intro hB (And.intro hQ kz))
        have HG := Lib.hid (And.intro hg hnx)
        have HWK := Lib.hid hwk
        have HHIT := Lib.hid hhit
        have HON := Lib.hid hon
        have HC := Lib.hid (fun U V (hc : (U.cell? ⟨g, o + i * 2, none⟩ = some (.int .i64 x0) ∧ U.cell? ⟨g, o + i * 2 + 1, none⟩ = some (.int .i64 y0)) ∧ U.cell? ⟨g, o + (i + 1) * 2, none⟩ = some (.int .i64 x1) ∧ U.cell? ⟨g, o + (i + 1) * 2 + 1, none⟩ = some (.int .i64 y1)) (hgU : g < U.heap.size) (h : Below U.heap.size U V) => show ((V.cell? ⟨g, o + i * 2, none⟩ = some (.int .i64 x0) ∧ V.cell? ⟨g, o + i * 2 + 1, none⟩ = some (.int .i64 y0)) ∧ V.cell? ⟨g, o + (i + 1) * 2, none⟩ = some (.int .i64 x1) ∧ V.cell? ⟨g, o + (i + 1) * 2 + 1, none⟩ = some (.int .i64 y1)) ∧ Below U.heap.size U V from
          ⟨⟨⟨(h.cell (p := ⟨g, o + i * 2, none⟩) hgU).trans hc.1.1, (h.cell (p := ⟨g, o + i * 2 + 1, none⟩) hgU).trans hc.1.2⟩, (h.cell (p := ⟨g, o + (i + 1) * 2, none⟩) hgU).trans hc.2.1, (h.cell (p := ⟨g, o + (i + 1) * 2 + 1, none⟩) hgU).trans hc.2.2⟩, h⟩)
        have HP := Lib.hid (HC.out wr wr.drew ⟨⟨e0, e1⟩, e2, e3⟩ hgl (Below.refl _ _).drew)
        have HP0 := Lib.hid (fun V => HC.out wr V ⟨⟨e0, e1⟩, e2, e3⟩ hgl)
        clear hB cL cH hst hS hcb hlt' hll hg hQ hwk hhit hon kz hSb hnx
        go_wp2_with fail
        go_region_held3 (fun w' => ((w'.cell? ⟨g, o + i * 2, none⟩ = some (.int .i64 x0) ∧ w'.cell? ⟨g, o + i * 2 + 1, none⟩ = some (.int .i64 y0)) ∧ w'.cell? ⟨g, o + (i + 1) * 2, none⟩ = some (.int .i64 x1) ∧ w'.cell? ⟨g, o + (i + 1) * 2 + 1, none⟩ = some (.int .i64 y1)) ∧ Below wr.heap.size wr w')
          (first
            | (with_reducible exact HP.out)
            | (with_reducible exact HP0.out _ (below_on (low3 (by assumption)) (low3 (by assumption)).size b9)))
          ((go_at_call 30; (with_reducible refine Calls.mono (CL.out _) ?_); rintro e w9 ⟨rfl, b9⟩))
        rename_i hHeld
        obtain ⟨⟨⟨f0, f1⟩, f2, f3⟩, hF⟩ := hHeld
        have HF := Lib.hid (And.intro hF (HB.out.1.trans (hF.mono HB.out.1.size)))
        clear hF b9 e0 e1 e2 e3 HP HP0
        by_cases hcase : 0 < (l : Int) ∧ S ≤ (l : Int)
        · obtain ⟨g1, g2⟩ := hcase
          have HVAL := Lib.hid (show AtV L cl n = ⟨X, Y⟩ from by rw [HWK.out, HHIT.out ⟨g1, g2⟩])
          have kz9 := HB.out.2.2.below HF.out.1 HB.out.2.2.lt
          have hg9 : g < w9.heap.size := Nat.lt_of_lt_of_le hgl HF.out.1.size
          have hs9 : w.heap.size + 1 ≤ w9.heap.size := Nat.le_of_lt kz9.lt
          have hgs : g ≠ w.heap.size + 1 := by have h1 := HFR.out g o rfl; have h2 := HK.out.2.2.2; omega
          have HC2 := Lib.hid (fun V (h : ∀ j, V.cell? ⟨g, j, none⟩ = w9.cell? ⟨g, j, none⟩) (hb : Below (w.heap.size + 1) w9 V) => show ((V.cell? ⟨g, o + i * 2, none⟩ = some (.int .i64 x0) ∧ V.cell? ⟨g, o + i * 2 + 1, none⟩ = some (.int .i64 y0)) ∧ V.cell? ⟨g, o + (i + 1) * 2, none⟩ = some (.int .i64 x1) ∧ V.cell? ⟨g, o + (i + 1) * 2 + 1, none⟩ = some (.int .i64 y1)) ∧ Below (w.heap.size + 1) w9 V from ⟨⟨⟨(h _).trans f0, (h _).trans f1⟩, (h _).trans f2, (h _).trans f3⟩, hb⟩)
          have HP2 := Lib.hid (HC2.out w9.drew (fun j => rfl) (Below.refl _ _).drew)
          have HZ9 := Lib.hid kz9
          clear kz9 HHIT HON HWK
          go_wp2_with fail
          go_region_held3 (fun w' => ((w'.cell? ⟨g, o + i * 2, none⟩ = some (.int .i64 x0) ∧ w'.cell? ⟨g, o + i * 2 + 1, none⟩ = some (.int .i64 y0)) ∧ w'.cell? ⟨g, o + (i + 1) * 2, none⟩ = some (.int .i64 x1) ∧ w'.cell? ⟨g, o + (i + 1) * 2 + 1, none⟩ = some (.int .i64 y1)) ∧ Below (w.heap.size + 1) w9 w')
            (first
              | (with_reducible exact HP2.out)
              | (with_reducible exact G10.out)
              | (with_reducible exact G11.out))
            ((go_at_call 31; (with_reducible refine Calls.mono (CH.out _) ?_); rintro e w10 ⟨rfl, b10⟩; (have B10 : Below w9.heap.size w9 w10 := (Below.refl _ w9).drew.trans b10); (have E10 : ∀ j, w10.cell? ⟨g, j, none⟩ = w9.cell? ⟨g, j, none⟩ := fun j => B10.cell (p := ⟨g, j, none⟩) hg9); (have G10 := Lib.hid (HC2.out w10 E10 (B10.mono hs9))); (have G11 := Lib.hid (HC2.out ((w10.setCell ⟨w.heap.size + 1, 0, none⟩ (.int .i64 X)).setCell ⟨w.heap.size + 1, 1, none⟩ (.int .i64 Y)) (fun j => by rw [World.cell?_setCell_far _ _ _ _ (by simpa using hgs.symm), World.cell?_setCell_far _ _ _ _ (by simpa using hgs.symm)]; exact E10 j) (((B10.mono hs9).setCell (p := ⟨w.heap.size + 1, 0, none⟩) (Nat.le_refl _) _).setCell (p := ⟨w.heap.size + 1, 1, none⟩) (Nat.le_refl _) _))); (have kc := HZ9.out.below B10 HZ9.out.lt); obtain ⟨⟨j0, j1⟩, j2, j3⟩ := Box.pair kc; clear B10 b10 E10))
          all_goals
            rename_i hHeld
            replace hHeld := hHeld.2
            obtain ⟨V, hV, kV, ⟨x0, x1⟩, -⟩ := kc.stored2 (.int .i64 X) (.int .i64 Y)
            rw [hV] at hHeld ⊢
            have HB9 := Lib.hid (HK.out.2.2.1.trans ((HF.out.2.mono HK.out.2.2.1.size).trans (hHeld.mono (by omega))))
            have HVL := Lib.hid (show Ending.returned (.tuple #[.agg #[.int .i64 X, .int .i64 Y], .bool true]) = Ending.returned (.tuple #[ptV (AtV L cl n), .bool true]) from by rw [HVAL.out]; rfl)
            clear hHeld kc hV kV
            go_wp2_with fail
            exact bodyPost_ret (by simp [results, Try.results11, go_sem, x0, x1]) rfl ⟨HVL.out, HB9.out⟩
        · have HNX := Lib.hid (show AtV L cl n = walkM (p.getD 0 pt0) (p.drop (i + 1)) (S - (l : Int)) from by rw [HWK.out, HON.out hcase])
          rcases (show ¬ 0 < (l : Int) ∨ (0 < (l : Int) ∧ ¬ S ≤ (l : Int)) from by omega) with g1 | ⟨g1, g2⟩
          all_goals
            clear hcase HHIT HON HWK
            go_wp2_with fail
            go_roundg (m - (i + 1))
            case measure => have := HG.out.1; omega
            case rel => exact ⟨i + 1, by simp, by rw [HG.out.2], by have := HG.out.1; omega, by omega, by rw [HG.out.2]; exact HNX.out, HF.out.2, HB.out.2.1.on HF.out.1⟩
      · obtain rfl : i = m - 1 := by omega
        have hval := walk_end (z := p.getD 0 pt0) (p := p) (i := m - 1) (n := n - chainTo p (m - 1)) (by rw [HM.out]; omega)
        rw [← hwk] at hval
        obtain ⟨g, o, rfl, hgl, e0, e1⟩ := hQ.ptD (i := 0) (by rw [HM.out]; exact hm0)
        generalize p.getD 0 pt0 = z at e0 e1 hval
        obtain ⟨X, Y⟩ := z
        dsimp only at e0 e1
        simp only [Nat.zero_mul, Nat.add_zero] at e0 e1
        obtain ⟨U, hU, kU, ⟨u0, u1⟩, bU⟩ := kz.stored2 (.int .i64 X) (.int .i64 Y)
        have HB := Lib.hid (HK.out.2.2.1.trans ((hB.mono HK.out.2.2.1.size).trans (bU w.heap.size (by omega))))
        have HVAL := Lib.hid (show Ending.returned (.tuple #[.agg #[.int .i64 X, .int .i64 Y], .bool true]) = Ending.returned (.tuple #[ptV (AtV L cl n), .bool true]) from by rw [hval]; rfl)
        have hge : ¬ (((m - 1 : Nat) : Int) + 1 < (m : Int)) := by omega
        obtain ⟨j, hj⟩ : ∃ j, m - 1 = j := ⟨_, rfl⟩
        rw [hj] at hge hwi ⊢
        have i4 : (0 : Int) < (m : Int) := by omega
        clear hB hQ hval hwk kz kU bU hg hi hlt hj
        go_wp2_with (rw [hU])
        try rw [hU]
        exact bodyPost_ret (by simp [results, Try.results11, go_sem, u0, u1]) rfl ⟨HVAL.out, HB.out⟩
  · have hno : ¬ AtOk L cl n := fun k => hok (HOK.out.1 k)
    rw [AtV_no hno, decide_eq_false hno]
    obtain ⟨f, hf⟩ : ∃ f : Bool, decide (FitL L) = f := ⟨_, rfl⟩
    rw [hf] at C2
    have HFF := Lib.hid (show f = true → FitL L from fun h => of_decide_eq_true (by rw [hf]; exact h))
    have hm0 : nl = 0 → m = 0 := by
      intro h0
      have h1 : L = [] := List.eq_nil_of_length_eq_zero (by rw [HNL.out]; exact h0)
      have h2 := hne.2 h1
      rw [← HM.out, h2]; rfl
    rcases (show m = 0 ∨ (m ≠ 0 ∧ f = false) ∨ (m ≠ 0 ∧ f = true ∧ n < 0) ∨ (m ≠ 0 ∧ f = true ∧ ¬ n < 0 ∧ lg < n) from by
      by_cases h1 : m = 0
      · exact .inl h1
      · cases hfb : f with
        | false => exact .inr (.inl ⟨h1, rfl⟩)
        | true =>
          have hfl := HFF.out hfb
          by_cases h3 : n < 0
          · exact .inr (.inr (.inl ⟨h1, rfl, h3⟩))
          · refine .inr (.inr (.inr ⟨h1, rfl, h3, ?_⟩))
            refine Classical.byContradiction fun h4 => hok ⟨?_, hfl, by omega, by omega⟩
            omega) with h1 | ⟨h1, rfl⟩ | ⟨h1, rfl, h3⟩ | ⟨h1, rfl, h3, h4⟩
    all_goals
      have HVN := Lib.hid (show Ending.returned (.tuple #[.agg #[.int .i64 0, .int .i64 0], .bool false]) = Ending.returned (.tuple #[ptV pt0, .bool false]) from rfl)
      (try have hmz : ((m : Int) == 0) = false := by simp; omega)
      (try have hmy : (m : Int) = 0 := by omega)
      clear hok hno hf HFF hm0 hne HW HLM HOK HLG
      (try subst h1)
      go_enter Try.func11, Try.ntmps11
      go_wp2_with first
        | (rw [hW])
        | (go_at_call 29; (with_reducible refine Calls.mono (C1.out _ (Below.refl _ _)) ?_); rintro e w1 ⟨⟨q, k, rfl, -, hq, -⟩, b1⟩
           have G := Lib.hid b1
           have Q1 := Lib.hid hq
           have kz := HK.out.2.1.below G.out HK.out.2.1.lt
           obtain ⟨⟨z0, z1⟩, z2, z3⟩ := Box.pair kz
           clear hq)
        | (go_at_call 24; (with_reducible refine Calls.mono (C2.out _ _ _ Q1.out) ?_); rintro e w2 ⟨rfl, b2⟩
           replace G := Lib.hid (G.out.trans (b2.mono G.out.size))
           obtain ⟨⟨p0, p1⟩, -⟩ := Box.pair (HK.out.1.below G.out HK.out.1.lt)
           replace kz := HK.out.2.1.below G.out HK.out.2.1.lt
           obtain ⟨⟨z0, z1⟩, z2, z3⟩ := Box.pair kz)
        | (go_at_call 17; (with_reducible refine Calls.mono (C3.out _ G.out) ?_); rintro e w3 ⟨rfl, b3⟩
           replace G := Lib.hid (G.out.trans (b3.mono G.out.size))
           replace kz := HK.out.2.1.below G.out HK.out.2.1.lt
           obtain ⟨⟨z0, z1⟩, z2, z3⟩ := Box.pair kz)
      obtain ⟨U, hU, kU, ⟨u0, u1⟩, bU⟩ := kz.stored2 (.int .i64 0) (.int .i64 0)
      try rw [hU]
      exact bodyPost_ret (by simp [results, Try.results11, go_sem, u0, u1]) rfl ⟨HVN.out, HK.out.2.2.1.trans ((G.out.mono HK.out.2.2.1.size).trans (bU w.heap.size (by omega)))⟩
end Go.Proofs.Ytkebffkekinblaa
