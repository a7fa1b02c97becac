/- Paths as mathematics: what is wrong with a path first, its lines, what it costs, the ways around lines. No program is named here. -/
import Derived.Test.YtngnclibeccplaaDoorZOaB
import Derived.Test.YtngnclibeccplaaDoorZOaG
import Derived.Test.YtngnclibeccplaaDoorZBgC
import Derived.BigQuiet
import Derived.Test.YtngnclibeccplaaDoorZBgD
namespace Go.Proofs.YtngnclibeccplaaDoor

structure St where
  op : Int
  p0 : Pt
  p1 : Pt
  p2 : Pt
instance : Inhabited St := ⟨⟨0, ⟨0, 0⟩, ⟨0, 0⟩, ⟨0, 0⟩⟩⟩
def st0 : St := ⟨0, pt0, pt0, pt0⟩
structure Ln where
  pts : List Pt
  closed : Bool
structure Sg where
  a : Pt
  b : Pt
def St.pt (s : St) : Nat → Pt
  | 0 => s.p0
  | 1 => s.p1
  | _ => s.p2
def usesM (op : Int) : Int := if op = 1 then 1 else if op = 2 then 1 else if op = 3 then 2 else if op = 4 then 3 else if op = 5 then 0 else -1
theorem usesM_in (op : Int) : -1 ≤ usesM op ∧ usesM op ≤ 3 := by
  unfold usesM
  repeat' split
  all_goals omega
/-- do the first points fit? -/
def FitTo (s : St) (n : Nat) : Prop := ∀ k, k < n → FitP (s.pt k)
instance (s : St) (n : Nat) : Decidable (FitTo s n) := by unfold FitTo; exact inferInstance
/-- what is wrong with a step, behind another one -/
def badM (prev : Option Int) (s : St) : Int :=
  if usesM s.op < 0 then 2 else if s.op ≠ 1 ∧ (prev = none ∨ prev = some 5) then 12 else if FitTo s (usesM s.op).toNat then 0 else 4
def checkGo (prev : Option Int) : List St → Int
  | [] => 0
  | s :: r => if badM prev s = 0 then checkGo (some s.op) r else badM prev s
def checkM (l : List St) : Int := if 200 < l.length then 7 else checkGo none l
def prevAt (l : List St) (i : Nat) : Option Int := if i = 0 then none else some (l.getD (i - 1) st0).op
theorem prevAt_succ {l : List St} {i : Nat} (hi : i < l.length) : prevAt l (i + 1) = some l[i].op := by
  simp [prevAt, List.getD, hi]
theorem checkGo_step {l : List St} {i : Nat} (hi : i < l.length) : checkGo (prevAt l i) (l.drop i) = if badM (prevAt l i) l[i] = 0 then checkGo (prevAt l (i + 1)) (l.drop (i + 1)) else badM (prevAt l i) l[i] := by
  rw [List.drop_eq_getElem_cons hi, prevAt_succ hi]
  rfl
theorem checkGo_end (l : List St) : checkGo (prevAt l l.length) (l.drop l.length) = 0 := by
  rw [List.drop_length]
  rfl

/-- the points of a step, from where one is -/
def pointsM (c : Pt) (s : St) : List Pt := if s.op = 1 ∨ s.op = 2 then [s.p0] else if s.op = 3 then curveP [c, s.p0, s.p1] else if s.op = 4 then curveP [c, s.p0, s.p1, s.p2] else []
theorem pointsM_le (c : Pt) (s : St) : (pointsM c s).length ≤ 32 := by
  unfold pointsM
  split
  · simp
  · split
    · rw [curveP_length]; exact piecesM_le _
    · split
      · rw [curveP_length]; exact piecesM_le _
      · simp
def lastP (l : List Pt) : Pt := l.getD (l.length - 1) pt0
theorem lastP_append (a : List Pt) {b : List Pt} (hb : b ≠ []) : lastP (a ++ b) = lastP b := by
  have h : 0 < b.length := List.length_pos_iff.2 hb
  unfold lastP
  rw [List.length_append]
  simp only [List.getD]
  rw [List.getElem?_append_right (by omega), show a.length + b.length - 1 - a.length = b.length - 1 by omega]
/-- the first i points, of neighbours that are the same the first one -/
def onceTo (l : List Pt) : Nat → List Pt
  | 0 => []
  | i + 1 => if i = 0 ∨ l.getD i pt0 ≠ l.getD (i - 1) pt0 then onceTo l i ++ [l.getD i pt0] else onceTo l i
theorem onceTo_le (l : List Pt) : ∀ i, (onceTo l i).length ≤ i
  | 0 => Nat.le_refl _
  | i + 1 => by
    have h := onceTo_le l i
    unfold onceTo
    split
    · rw [List.length_append]; simp; exact h
    · omega
def onceM (l : List Pt) : List Pt := onceTo l l.length
/-- points as a line -/
def lineM (l : List Pt) (closed : Bool) : List Pt := if closed = true ∧ 1 < (onceM l).length ∧ (onceM l).getD 0 pt0 = lastP (onceM l) then (onceM l).take ((onceM l).length - 1) else onceM l
theorem lineM_le (l : List Pt) (closed : Bool) : (lineM l closed).length ≤ l.length := by
  have h := onceTo_le l l.length
  unfold lineM onceM
  split
  · rw [List.length_take]; omega
  · exact h
def flushM (now : List Pt) (closed : Bool) : List Ln := if 1 < (lineM now closed).length then [⟨lineM now closed, closed⟩] else []
/-- what still stands of a line when a step comes -/
def nowM (now : List Pt) (s : St) : List Pt := if s.op = 1 ∨ s.op = 5 then [] else now
def traceGo : List Pt → List St → List Ln
  | now, [] => flushM now false
  | now, s :: r => (if s.op = 1 ∨ s.op = 5 then flushM now (decide (s.op = 5)) else []) ++ traceGo (nowM now s ++ pointsM (lastP (nowM now s)) s) r
def traceM (l : List St) : List Ln := if checkM l = 0 then traceGo [] l else []
/-- what a path costs -/
def costM (c : Pt) (s : St) : Nat := if s.op = 1 then 0 else max 1 (pointsM c s).length
def goesM (c : Pt) (s : St) : Pt := if pointsM c s = [] then c else lastP (pointsM c s)
def countGo : Pt → List St → Nat
  | _, [] => 0
  | c, s :: r => costM c s + countGo (goesM c s) r
def countM (l : List St) : Nat := if checkM l = 0 then countGo pt0 l else 0
theorem countGo_le (l : List St) : ∀ c, countGo c l ≤ 32 * l.length := by
  induction l with
  | nil => intro c; simp [countGo]
  | cons s r ih =>
    intro c
    have h1 := ih (goesM c s)
    have h2 := pointsM_le c s
    simp only [countGo, costM, List.length_cons]
    split <;> omega

/-- the ways around a line: the first k -/
def nextP (l : List Pt) (k : Nat) : Pt := if k + 1 < l.length then l.getD (k + 1) pt0 else l.getD 0 pt0
def segTo (l : List Pt) : Nat → List Sg
  | 0 => []
  | k + 1 => if l.getD k pt0 = nextP l k then segTo l k else segTo l k ++ [⟨l.getD k pt0, nextP l k⟩]
def segsOf (l : List Pt) : List Sg := segTo l l.length
def segsM (l : List Ln) : List Sg := l.flatMap fun x => segsOf x.pts
theorem segTo_le (l : List Pt) : ∀ k, (segTo l k).length ≤ k
  | 0 => Nat.le_refl _
  | k + 1 => by
    have h := segTo_le l k
    unfold segTo
    split
    · omega
    · rw [List.length_append]; simp; exact h
theorem segTo_ne (l : List Pt) : ∀ k, ∀ s ∈ segTo l k, s.a ≠ s.b
  | 0, s, h => by simp [segTo] at h
  | k + 1, s, h => by
    unfold segTo at h
    split at h
    · exact segTo_ne l k s h
    · rename_i hne
      rcases List.mem_append.1 h with h | h
      · exact segTo_ne l k s h
      · simp at h; subst h; exact hne
theorem segsM_ne (l : List Ln) : ∀ s ∈ segsM l, s.a ≠ s.b := fun s h => by
  obtain ⟨x, -, hx⟩ := List.mem_flatMap.1 h
  exact segTo_ne _ _ s hx
/-- how often ways leave a point, less how often they come to it -/
def ind (a p : Pt) : Int := if a = p then 1 else 0
def balM (p : Pt) : List Sg → Int
  | [] => 0
  | s :: r => ind s.a p - ind s.b p + balM p r
theorem balM_append (p : Pt) : ∀ a b : List Sg, balM p (a ++ b) = balM p a + balM p b
  | [], b => by simp [balM]
  | s :: r, b => by
    have h := balM_append p r b
    simp only [List.cons_append, balM, h]
    omega
theorem bal_step (p : Pt) (l : List Pt) (k : Nat) : balM p (segTo l (k + 1)) = balM p (segTo l k) + (ind (l.getD k pt0) p - ind (nextP l k) p) := by
  have e : segTo l (k + 1) = if l.getD k pt0 = nextP l k then segTo l k else segTo l k ++ [⟨l.getD k pt0, nextP l k⟩] := rfl
  rw [e]
  split
  · rename_i h; rw [h]; omega
  · rw [balM_append]; simp [balM]
theorem bal_open (p : Pt) (l : List Pt) : ∀ k, k < l.length → balM p (segTo l k) = ind (l.getD 0 pt0) p - ind (l.getD k pt0) p
  | 0, _ => by simp [segTo, balM]
  | k + 1, h => by
    rw [bal_step, bal_open p l k (by omega)]
    have e : nextP l k = l.getD (k + 1) pt0 := if_pos h
    rw [e]
    omega
theorem bal_round (p : Pt) (l : List Pt) : balM p (segsOf l) = 0 := by
  unfold segsOf
  cases hl : l.length with
  | zero => rfl
  | succ n =>
    rw [bal_step, bal_open p l n (by omega)]
    have e : nextP l n = l.getD 0 pt0 := if_neg (by omega)
    rw [e]
    omega
/-- what goes out of a point comes to it as often -/
theorem bal_all (p : Pt) (l : List Ln) : balM p (segsM l) = 0 := by
  induction l with
  | nil => rfl
  | cons x l ih =>
    have e : segsM (x :: l) = segsOf x.pts ++ segsM l := by simp [segsM]
    rw [e, balM_append, bal_round, ih]
    rfl
/-- how many points lines have, less one each -/
def moreM : List Ln → Nat
  | [] => 0
  | x :: r => (x.pts.length - 1) + moreM r
theorem moreM_append : ∀ a b : List Ln, moreM (a ++ b) = moreM a + moreM b
  | [], b => by simp [moreM]
  | x :: a, b => by
    have h := moreM_append a b
    simp only [List.cons_append, moreM, h]
    omega
theorem flush_more (now : List Pt) (c : Bool) : moreM (flushM now c) ≤ now.length - 1 := by
  have h := lineM_le now c
  unfold flushM
  split
  · simp [moreM]; omega
  · simp [moreM]
theorem segs_more (l : List Ln) : (segsM l).length ≤ moreM l + l.length := by
  induction l with
  | nil => simp [segsM]
  | cons x l ih =>
    have e : segsM (x :: l) = segsOf x.pts ++ segsM l := by simp [segsM]
    have h := segTo_le x.pts x.pts.length
    rw [e, List.length_append]
    unfold segsOf
    simp only [moreM, List.length_cons]
    omega
theorem badM_zero {prev : Option Int} {s : St} (h : badM prev s = 0) : (s.op = 1 ∨ s.op = 2 ∨ s.op = 3 ∨ s.op = 4 ∨ s.op = 5) ∧ (s.op = 1 ∨ ∃ o, prev = some o ∧ o ≠ 5) ∧ FitTo s (usesM s.op).toNat := by
  unfold badM at h
  split at h
  · omega
  · rename_i h1
    split at h
    · omega
    · rename_i h2
      split at h
      · rename_i h3
        refine ⟨?_, ?_, h3⟩
        · unfold usesM at h1
          repeat' split at h1
          all_goals omega
        · by_cases h4 : s.op = 1
          · exact .inl h4
          · refine .inr ?_
            cases prev with
            | none => exact absurd ⟨h4, .inl rfl⟩ h2
            | some o => exact ⟨o, rfl, fun e => h2 ⟨h4, .inr (by rw [e])⟩⟩
      · omega
/-- a line's points are no more than what it costs, and one -/
theorem trace_more : ∀ (l : List St) (now : List Pt) (c : Pt) (prev : Option Int), checkGo prev l = 0 → (∀ o, prev = some o → o ≠ 5 → now ≠ [] ∧ c = lastP now) → moreM (traceGo now l) ≤ (now.length - 1) + countGo c l
  | [], now, c, prev, _, _ => by
    have := flush_more now false
    simp only [traceGo, countGo]
    omega
  | s :: r, now, c, prev, hc, hn => by
    have hb : badM prev s = 0 := by
      unfold checkGo at hc
      split at hc
      · assumption
      · exact absurd hc (by assumption)
    have hr : checkGo (some s.op) r = 0 := by
      unfold checkGo at hc
      rwa [if_pos hb] at hc
    obtain ⟨h1, h2, -⟩ := badM_zero hb
    have hf := flush_more now (decide (s.op = 5))
    simp only [traceGo, countGo, moreM_append]
    by_cases ho : s.op = 1 ∨ s.op = 5
    · have e1 : nowM now s = [] := if_pos ho
      rw [if_pos ho, e1, List.nil_append]
      rcases ho with ho | ho
      · have e2 : ∀ x, pointsM x s = [s.p0] := fun x => if_pos (.inl ho)
        have ih := trace_more r [s.p0] (goesM c s) (some s.op) hr (fun o _ _ => ⟨by simp, by unfold goesM; rw [e2]; simp⟩)
        rw [e2]
        simp only [List.length_cons, List.length_nil] at ih
        unfold costM
        rw [if_pos ho]
        omega
      · have e2 : ∀ x, pointsM x s = [] := fun x => by unfold pointsM; rw [if_neg (by omega), if_neg (by omega), if_neg (by omega)]
        have ih := trace_more r [] (goesM c s) (some s.op) hr (fun o h h5 => absurd (by cases h; exact ho) h5)
        rw [e2]
        simp only [List.length_nil] at ih
        omega
    · have e1 : nowM now s = now := if_neg ho
      rw [if_neg ho, e1]
      obtain ⟨hnow, rfl⟩ : now ≠ [] ∧ c = lastP now := by
        rcases h2 with h2 | ⟨o, ho1, ho2⟩
        · exact absurd (.inl h2) ho
        · exact hn o ho1 ho2
      have hlen : 0 < now.length := List.length_pos_iff.2 hnow
      obtain ⟨P, hP⟩ : ∃ P, pointsM (lastP now) s = P := ⟨_, rfl⟩
      have ih := trace_more r (now ++ P) (goesM (lastP now) s) (some s.op) hr (fun o _ _ => ⟨by simp [hnow], by
        unfold goesM
        rw [hP]
        by_cases hp : P = []
        · rw [if_pos hp, hp, List.append_nil]
        · rw [if_neg hp, lastP_append now hp]⟩)
      rw [hP]
      rw [List.length_append] at ih
      unfold costM
      rw [hP, if_neg (fun e => ho (.inl e))]
      simp only [moreM]
      omega
/-- a path's ways are no more than what it costs, and one for each line -/
theorem segs_few (l : List St) : (segsM (traceM l)).length ≤ countM l + (traceM l).length := by
  have h1 := segs_more (traceM l)
  unfold traceM countM at *
  by_cases hc : checkM l = 0
  · rw [if_pos hc] at h1 ⊢
    rw [if_pos hc]
    have hg : checkGo none l = 0 := by
      unfold checkM at hc
      split at hc
      · omega
      · exact hc
    have h2 := trace_more l [] pt0 none hg (fun o h => by cases h)
    simp only [List.length_nil] at h2
    omega
  · rw [if_neg hc]
    simp [segsM]
end Go.Proofs.YtngnclibeccplaaDoor
/- Rows of steps, of ways, of lines in memory. -/

namespace Go.Proofs.YtngnclibeccplaaDoor
open Go.RowKit

def stCells (s : St) : List Value := [.int .i64 s.op, .int .i64 s.p0.x, .int .i64 s.p0.y, .int .i64 s.p1.x, .int .i64 s.p1.y, .int .i64 s.p2.x, .int .i64 s.p2.y]
def stV (s : St) : Value := .agg #[.int .i64 s.op, .int .i64 s.p0.x, .int .i64 s.p0.y, .int .i64 s.p1.x, .int .i64 s.p1.y, .int .i64 s.p2.x, .int .i64 s.p2.y]
def stRow (l : List St) : List Value := l.flatMap stCells
theorem stCells_length (s : St) : (stCells s).length = 7 := rfl
theorem stRow_length (l : List St) : (stRow l).length = l.length * 7 := flat_length stCells_length l
theorem RdV.st {w : World} {B : Nat} {p : Option Addr} {l : List St} (h : RdV w B p (stRow l)) {i : Nat} (hi : i < l.length) : ∃ b o, p = some ⟨b, o, none⟩ ∧ b < B ∧ w.cell? ⟨b, o + i * 7, none⟩ = some (.int .i64 l[i].op) ∧
    w.cell? ⟨b, o + i * 7 + 1, none⟩ = some (.int .i64 l[i].p0.x) ∧ w.cell? ⟨b, o + i * 7 + 2, none⟩ = some (.int .i64 l[i].p0.y) ∧ w.cell? ⟨b, o + i * 7 + 3, none⟩ = some (.int .i64 l[i].p1.x) ∧ w.cell? ⟨b, o + i * 7 + 4, none⟩ = some (.int .i64 l[i].p1.y) ∧
    w.cell? ⟨b, o + i * 7 + 5, none⟩ = some (.int .i64 l[i].p2.x) ∧ w.cell? ⟨b, o + i * 7 + 6, none⟩ = some (.int .i64 l[i].p2.y) := by
  obtain ⟨b, o, e, hb, hc⟩ := RdV.elem stCells_length h (by omega) hi
  exact ⟨b, o, e, hb, hc 0 _ rfl, hc 1 _ rfl, hc 2 _ rfl, hc 3 _ rfl, hc 4 _ rfl, hc 5 _ rfl, hc 6 _ rfl⟩
/-- a step's point of a number -/
theorem RdV.stPt {w : World} {B : Nat} {p : Option Addr} {l : List St} (h : RdV w B p (stRow l)) {i : Nat} (hi : i < l.length) {k : Nat} (hk : k < 3) : ∃ b o, p = some ⟨b, o, none⟩ ∧ b < B ∧ w.cell? ⟨b, o + i * 7 + 1 + k * 2, none⟩ = some (.int .i64 (l[i].pt k).x) ∧ w.cell? ⟨b, o + i * 7 + 1 + k * 2 + 1, none⟩ = some (.int .i64 (l[i].pt k).y) := by
  obtain ⟨b, o, e, hb, -, h0, h1, h2, h3, h4, h5⟩ := h.st hi
  refine ⟨b, o, e, hb, ?_⟩
  match k, hk with
  | 0, _ => exact ⟨h0, h1⟩
  | 1, _ => exact ⟨h2, h3⟩
  | 2, _ => exact ⟨h4, h5⟩
def sgCells (s : Sg) : List Value := [.int .i64 s.a.x, .int .i64 s.a.y, .int .i64 s.b.x, .int .i64 s.b.y]
def sgRow (l : List Sg) : List Value := l.flatMap sgCells
theorem sgCells_length (s : Sg) : (sgCells s).length = 4 := rfl
theorem sgRow_append (a b : List Sg) : sgRow (a ++ b) = sgRow a ++ sgRow b := by simp [sgRow]
theorem sgRow_one (s : Sg) : sgRow [s] = [.int .i64 s.a.x, .int .i64 s.a.y, .int .i64 s.b.x, .int .i64 s.b.y] := rfl
theorem RdV.sg {w : World} {B : Nat} {p : Option Addr} {l : List Sg} (h : RdV w B p (sgRow l)) {i : Nat} (hi : i < l.length) : ∃ b o, p = some ⟨b, o, none⟩ ∧ b < B ∧ w.cell? ⟨b, o + i * 4, none⟩ = some (.int .i64 l[i].a.x) ∧ w.cell? ⟨b, o + i * 4 + 1, none⟩ = some (.int .i64 l[i].a.y) ∧ w.cell? ⟨b, o + i * 4 + 2, none⟩ = some (.int .i64 l[i].b.x) ∧ w.cell? ⟨b, o + i * 4 + 3, none⟩ = some (.int .i64 l[i].b.y) := by
  obtain ⟨b, o, e, hb, hc⟩ := RdV.elem sgCells_length h (by omega) hi
  exact ⟨b, o, e, hb, hc 0 _ rfl, hc 1 _ rfl, hc 2 _ rfl, hc 3 _ rfl⟩
theorem info_ln : (Tryd.prog.info? 24).map (fun i => (i.zero, i.size, i.bytes)) = some (some (.agg #[.slice none 0 0, .bool false]), 2, 32) := by kernel_rfl

/-- a line as it lies -/
structure Lv where
  A : Option Addr
  c : Nat
  pts : List Pt
  closed : Bool
def Lv.ln (x : Lv) : Ln := ⟨x.pts, x.closed⟩
def Lv.hd (x : Lv) : Value := .slice x.A x.pts.length x.c
def lvCells (x : Lv) : List Value := [.slice x.A x.pts.length x.c, .bool x.closed]
def lvRow (l : List Lv) : List Value := l.flatMap lvCells
theorem lvCells_length (x : Lv) : (lvCells x).length = 2 := rfl
theorem lvRow_append (a b : List Lv) : lvRow (a ++ b) = lvRow a ++ lvRow b := by simp [lvRow]
theorem lvRow_one (x : Lv) : lvRow [x] = [.slice x.A x.pts.length x.c, .bool x.closed] := by simp [lvRow, lvCells]
/-- lines that are read -/
def RdLn (w : World) (B : Nat) (p : Option Addr) (l : List Lv) : Prop := RdV w B p (lvRow l) ∧ ∀ x ∈ l, RdV w B x.A (ptRow x.pts)
theorem RdLn.below {w w' : World} {B : Nat} {p : Option Addr} {l : List Lv} (h : RdLn w B p l) (hb : Below B w w') : RdLn w' B p l := ⟨h.1.below hb, fun x hx => (h.2 x hx).below hb⟩
theorem RdLn.mono {w : World} {B B' : Nat} {p : Option Addr} {l : List Lv} (h : RdLn w B p l) (hb : B ≤ B') : RdLn w B' p l := ⟨h.1.mono hb, fun x hx => (h.2 x hx).mono hb⟩
theorem RdLn.on {w w' : World} {p : Option Addr} {l : List Lv} (h : RdLn w w.heap.size p l) (hb : Below w.heap.size w w') : RdLn w' w'.heap.size p l := (h.below hb).mono hb.size
theorem RdLn.nil (w : World) (B : Nat) (p : Option Addr) : RdLn w B p [] := ⟨RdV.nil w B p, fun x hx => by cases hx⟩
theorem RdLn.row {w : World} {B : Nat} {p : Option Addr} {l : List Lv} (h : RdLn w B p l) {i : Nat} (hi : i < l.length) : ∃ b o, p = some ⟨b, o, none⟩ ∧ b < B ∧ w.cell? ⟨b, o + i * 2, none⟩ = some (.slice l[i].A l[i].pts.length l[i].c) ∧ w.cell? ⟨b, o + i * 2 + 1, none⟩ = some (.bool l[i].closed) ∧ RdV w B l[i].A (ptRow l[i].pts) := by
  obtain ⟨b, o, e, hb, hc⟩ := RdV.elem lvCells_length h.1 (by omega) hi
  exact ⟨b, o, e, hb, hc 0 _ rfl, hc 1 _ rfl, h.2 _ (List.getElem_mem hi)⟩
/-- rows of unlike kinds lie in unlike blocks -/
theorem own_apartK {w : World} {base base' k k' : Nat} {e e' : TypeId} {v v' : Value} {n n' : Nat} {xs xs' : List Value} (hne : e ≠ e') (h : w.ownsRow base e k v n xs) (h' : w.ownsRow base' e' k' v' n' xs') : v.ownBlock = none ∨ v.ownBlock ≠ v'.ownBlock := by
  rcases h.2 with ⟨rfl, _⟩ | ⟨g, cap, cur, rfl, _, hg, _⟩
  · exact .inl rfl
  · refine .inr ?_
    rcases h'.2 with ⟨rfl, _⟩ | ⟨g', cap', cur', rfl, _, hg', _⟩
    · simp [Value.ownBlock]
    · intro e1
      simp only [Value.ownBlock, Option.some.injEq] at e1
      subst e1
      rw [hg] at hg'
      simp only [Option.some.injEq, Obj.cells.injEq] at hg'
      exact hne hg'.2.1
theorem own_mono {w : World} {base base' k : Nat} {e : TypeId} {v : Value} {n : Nat} {xs : List Value} (h : w.ownsRow base e k v n xs) (hb : base' ≤ base) : w.ownsRow base' e k v n xs := by
  refine ⟨h.1, ?_⟩
  rcases h.2 with hn | ⟨g, cap, cur, rfl, hbg, rest⟩
  · exact .inl hn
  · exact .inr ⟨g, cap, cur, rfl, Nat.le_trans hb hbg, rest⟩
/-- lines that a call made: the outer row in its own block, each line's points in one of another kind -/
def OwnLn (w : World) (base : Nat) (v : Value) (l : List Lv) : Prop :=
  w.ownsRow base 24 2 v l.length (lvRow l) ∧ ∀ x ∈ l, w.ownsRow base 34 2 x.hd x.pts.length (ptRow x.pts)
theorem OwnLn.nil (w : World) (base : Nat) : OwnLn w base (.slice none 0 0) [] := ⟨World.ownsRow_nil _ _ _ _, fun x hx => by cases hx⟩
theorem OwnLn.kept {w w' : World} {base : Nat} {v : Value} {l : List Lv} (h : OwnLn w base v l) (hb : Below w.heap.size w w') : OwnLn w' base v l := ⟨own_below h.1 hb, fun x hx => own_below (h.2 x hx) hb⟩
theorem OwnLn.lt {w : World} {base : Nat} {v : Value} {l : List Lv} (h : OwnLn w base v l) : ∀ k, v.ownBlock = some k → base ≤ k ∧ k < w.heap.size := h.1.lt
/-- a line more -/
theorem OwnLn.snoc {w w' : World} {base : Nat} {v v' : Value} {l : List Lv} {x : Lv} (h : OwnLn w base v l) (hx : w.ownsRow base 34 2 x.hd x.pts.length (ptRow x.pts)) (hg : w.grownBy w' v.ownBlock)
    (ho : w'.ownsRow base 24 2 v' (l.length + 1) (lvRow l ++ lvCells x)) : OwnLn w' base v' (l ++ [x]) := by
  refine ⟨by rw [lvRow_append, List.length_append]; simpa [lvRow] using ho, fun y hy => ?_⟩
  have hy' : w.ownsRow base 34 2 y.hd y.pts.length (ptRow y.pts) := by
    rcases List.mem_append.1 hy with h1 | h1
    · exact h.2 y h1
    · simp at h1; subst h1; exact hx
  exact hy'.kept hg (own_apartK (by decide) hy' h.1)
theorem OwnLn.rd {w : World} {base : Nat} {v : Value} {l : List Lv} (h : OwnLn w base v l) : ∃ p cap, v = .slice p l.length cap ∧ l.length ≤ cap ∧ RdLn w w.heap.size p l := by
  obtain ⟨p, cap, e, hc, -, hr⟩ := RdV.ofOwnK h.1
  refine ⟨p, cap, e, hc, hr, fun x hm => ?_⟩
  obtain ⟨q, c', e', -, -, hr'⟩ := RdV.ofOwnK (h.2 x hm)
  unfold Lv.hd at e'
  cases e'
  exact hr'
end Go.Proofs.YtngnclibeccplaaDoor
/- Paths, the document's own: Uses, Check. -/

namespace Go.Proofs.YtngnclibeccplaaDoor
open Go.RowKit

theorem FitTo.step {s : St} {k : Nat} (h : FitTo s k) (hk : FitP (s.pt k)) : FitTo s (k + 1) := fun j hj => by
  rcases Nat.lt_or_ge j k with h1 | h1
  · exact h j h1
  · have : j = k := by omega
    subst this; exact hk
theorem badM_no {prev : Option Int} {s : St} (h : usesM s.op < 0) : badM prev s = 2 := if_pos h
theorem badM_order {prev : Option Int} {s : St} (h : ¬ usesM s.op < 0) (h1 : s.op ≠ 1) (h2 : prev = none ∨ prev = some 5) : badM prev s = 12 := by
  unfold badM
  rw [if_neg h, if_pos ⟨h1, h2⟩]
theorem badM_fit {prev : Option Int} {s : St} {u : Nat} (h : usesM s.op = (u : Int)) (h1 : s.op = 1 ∨ ∃ o, prev = some o ∧ o ≠ 5) : badM prev s = if FitTo s u then 0 else 4 := by
  unfold badM
  rw [h, if_neg (by omega), if_neg, Int.toNat_natCast]
  rintro ⟨h2, h3⟩
  rcases h1 with h1 | ⟨o, rfl, h1⟩
  · exact h2 h1
  · rcases h3 with h3 | h3
    · cases h3
    · cases h3; exact h1 rfl

end Go.Proofs.YtngnclibeccplaaDoor
/- Paths, the document's own: Points. -/

namespace Go.Proofs.YtngnclibeccplaaDoor
open Go.RowKit

/-- points that a call hands back -/
def GivesPts (l : List Pt) (w : World) (e : Ending) (w' : World) : Prop := (∃ q k, e = .returned (.slice q l.length k) ∧ (l = [] → q = none ∧ k = 0) ∧ RdV w' w'.heap.size q (ptRow l)) ∧ Below w.heap.size w w'
end Go.Proofs.YtngnclibeccplaaDoor
/- Paths, the document's own: line. -/

namespace Go.Proofs.YtngnclibeccplaaDoor
open Go.RowKit

theorem onceTo_new {l : List Pt} {i : Nat} (h : i = 0 ∨ l.getD i pt0 ≠ l.getD (i - 1) pt0) : onceTo l (i + 1) = onceTo l i ++ [l.getD i pt0] := if_pos h
theorem onceTo_old {l : List Pt} {i : Nat} (h : ¬ (i = 0 ∨ l.getD i pt0 ≠ l.getD (i - 1) pt0)) : onceTo l (i + 1) = onceTo l i := if_neg h

theorem own_take {w : World} {base k n cap : Nat} {e : TypeId} {A : Option Addr} {xs : List Value} (h : w.ownsRow base e k (.slice A n cap) n xs) {m : Nat} (hm : m ≤ n) (h0 : 0 < n) : w.ownsRow base e k (.slice A m cap) m (xs.take (m * k)) := by
  have hmk := Nat.mul_le_mul_right k hm
  refine ⟨by rw [List.length_take, h.1]; omega, ?_⟩
  rcases h.2 with ⟨-, h1⟩ | ⟨g, cap', cur, e1, hbg, hg, hnc, hcm, hcs, htk⟩
  · omega
  · cases e1
    exact .inr ⟨g, cap, cur, rfl, hbg, hg, by omega, hcm, hcs, by rw [← htk, List.take_take, Nat.min_eq_left hmk]⟩
theorem own_store2 {w U : World} {base k n g : Nat} {e : TypeId} {v x y : Value} {xs : List Value} (h : w.ownsRow base e k v n xs) (hU : (w.setCell ⟨g, 0, none⟩ x).setCell ⟨g, 1, none⟩ y = U) (hg : g < base) : U.ownsRow base e k v n xs := by
  refine ⟨h.1, ?_⟩
  rcases h.2 with hn | ⟨b, cap, cur, rfl, hb, hg2, rest⟩
  · exact .inl hn
  · refine .inr ⟨b, cap, cur, rfl, hb, ?_, rest⟩
    rw [← hU]
    exact (Below.heap_setCell _ _ y b (by show b ≠ g; omega)).trans ((Below.heap_setCell _ _ x b (by show b ≠ g; omega)).trans hg2)
theorem own_drewN {w : World} {base k n : Nat} {e : TypeId} {v : Value} {xs : List Value} (h : w.ownsRow base e k v n xs) (j : Nat) : (w.drewN j).ownsRow base e k v n xs := h
theorem ptRow_take (l : List Pt) (m : Nat) : (ptRow l).take (m * 2) = ptRow (l.take m) := by
  induction l generalizing m with
  | nil => simp [ptRow]
  | cons p l ih =>
    cases m with
    | zero => simp [ptRow]
    | succ m =>
      have e : ptRow (p :: l) = .int .i64 p.x :: .int .i64 p.y :: ptRow l := rfl
      rw [e, show (m + 1) * 2 = m * 2 + 1 + 1 by omega, List.take_succ_cons, List.take_succ_cons, ih m]
      rfl

end Go.Proofs.YtngnclibeccplaaDoor
/- Paths, the document's own: Segs; rows that are the same. -/

namespace Go.Proofs.YtngnclibeccplaaDoor
open Go.RowKit

def Lv.all (V : List Lv) : List Ln := V.map Lv.ln
/-- the ways around the first lines -/
def segsI (V : List Lv) (i : Nat) : List Sg := segsM (Lv.all (V.take i))
theorem segsI_step {V : List Lv} {i : Nat} (hi : i < V.length) : segsI V (i + 1) = segsI V i ++ segsOf V[i].pts := by
  unfold segsI Lv.all segsM
  rw [List.take_succ_eq_append_getElem hi]
  simp only [List.map_append, List.flatMap_append, List.map_cons, List.map_nil, List.flatMap_cons, List.flatMap_nil, List.append_nil]
  rfl
theorem segsI_all (V : List Lv) : segsI V V.length = segsM (Lv.all V) := by unfold segsI; rw [List.take_length]
def sumP : List Lv → Nat
  | [] => 0
  | x :: r => x.pts.length + sumP r
theorem sumP_append : ∀ a b : List Lv, sumP (a ++ b) = sumP a + sumP b
  | [], b => by simp [sumP]
  | x :: a, b => by
    have h := sumP_append a b
    simp only [List.cons_append, sumP, h]
    omega
theorem segsI_le {V : List Lv} : ∀ {i : Nat}, i ≤ V.length → (segsI V i).length ≤ sumP (V.take i)
  | 0, _ => by simp [segsI, Lv.all, segsM]
  | i + 1, h => by
    have h1 := segsI_le (V := V) (i := i) (by omega)
    have h2 := segTo_le V[i].pts V[i].pts.length
    rw [segsI_step (by omega), List.length_append, List.take_succ_eq_append_getElem (by omega), sumP_append]
    simp only [sumP]
    unfold segsOf
    omega
theorem sumP_take {V : List Lv} {i : Nat} (hi : i < V.length) : sumP (V.take i) + V[i].pts.length ≤ sumP V := by
  have h := List.take_append_drop i V
  have h2 := congrArg sumP h
  rw [sumP_append, List.drop_eq_getElem_cons hi] at h2
  simp only [sumP] at h2
  omega

theorem four_new (w : World) (t : TypeId) (a b c d : Value) : ∀ j u, [a, b, c, d][j]? = some u → (w.alloc (.cells #[a, b, c, d] t)).cell? ((⟨w.heap.size, 0, none⟩ : Addr).add j) = some u := by
  intro j u hj
  rw [addr_add, Nat.zero_add]
  exact (Box.new w t [a, b, c, d]).cell j hj
theorem segTo_old {l : List Pt} {k : Nat} (h : l.getD k pt0 = nextP l k) : segTo l (k + 1) = segTo l k := if_pos h
theorem segTo_new {l : List Pt} {k : Nat} (h : ¬ l.getD k pt0 = nextP l k) : segTo l (k + 1) = segTo l k ++ [⟨l.getD k pt0, nextP l k⟩] := if_neg h

end Go.Proofs.YtngnclibeccplaaDoor
/- Paths, the document's own: lines that are the same. -/

namespace Go.Proofs.YtngnclibeccplaaDoor
open Go.RowKit

end Go.Proofs.YtngnclibeccplaaDoor
