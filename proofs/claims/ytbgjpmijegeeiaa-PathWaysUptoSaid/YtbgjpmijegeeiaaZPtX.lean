/- Paths as mathematics: what is wrong with a path first, its lines, what it costs, the ways around lines. No program is named here. -/
import Derived.Test.YtbgjpmijegeeiaaZBgA
import Derived.Test.YtbgjpmijegeeiaaZAfY
import Derived.Test.YtbgjpmijegeeiaaZBgC
import Derived.BigQuiet
namespace Go.Proofs.Ytbgjpmijegeeiaa

structure St where
  op : Int
  p0 : Pt
  p1 : Pt
  p2 : Pt
instance : Inhabited St := ⟨⟨0, ⟨0, 0⟩, ⟨0, 0⟩, ⟨0, 0⟩⟩⟩
def st0 : St := ⟨0, pt0, pt0, pt0⟩
structure Ln where
  pts : List Pt
  closed : Bool
structure Sg where
  a : Pt
  b : Pt
def St.pt (s : St) : Nat → Pt
  | 0 => s.p0
  | 1 => s.p1
  | _ => s.p2
def usesM (op : Int) : Int := if op = 1 then 1 else if op = 2 then 1 else if op = 3 then 2 else if op = 4 then 3 else if op = 5 then 0 else -1
theorem usesM_in (op : Int) : -1 ≤ usesM op ∧ usesM op ≤ 3 := by
  unfold usesM
  repeat' split
  all_goals omega
/-- do the first points fit? -/
def FitTo (s : St) (n : Nat) : Prop := ∀ k, k < n → FitP (s.pt k)
instance (s : St) (n : Nat) : Decidable (FitTo s n) := by unfold FitTo; exact inferInstance
/-- what is wrong with a step, behind another one -/
def badM (prev : Option Int) (s : St) : Int :=
  if usesM s.op < 0 then 2 else if s.op ≠ 1 ∧ (prev = none ∨ prev = some 5) then 12 else if FitTo s (usesM s.op).toNat then 0 else 4
def checkGo (prev : Option Int) : List St → Int
  | [] => 0
  | s :: r => if badM prev s = 0 then checkGo (some s.op) r else badM prev s
def checkM (l : List St) : Int := if 200 < l.length then 7 else checkGo none l
def prevAt (l : List St) (i : Nat) : Option Int := if i = 0 then none else some (l.getD (i - 1) st0).op
theorem prevAt_succ {l : List St} {i : Nat} (hi : i < l.length) : prevAt l (i + 1) = some l[i].op := by
  simp [prevAt, List.getD, hi]
theorem checkGo_step {l : List St} {i : Nat} (hi : i < l.length) : checkGo (prevAt l i) (l.drop i) = if badM (prevAt l i) l[i] = 0 then checkGo (prevAt l (i + 1)) (l.drop (i + 1)) else badM (prevAt l i) l[i] := by
  rw [List.drop_eq_getElem_cons hi, prevAt_succ hi]
  rfl
theorem checkGo_end (l : List St) : checkGo (prevAt l l.length) (l.drop l.length) = 0 := by
  rw [List.drop_length]
  rfl

/-- the points of a step, from where one is -/
def pointsM (c : Pt) (s : St) : List Pt := if s.op = 1 ∨ s.op = 2 then [s.p0] else if s.op = 3 then curveP [c, s.p0, s.p1] else if s.op = 4 then curveP [c, s.p0, s.p1, s.p2] else []
theorem pointsM_le (c : Pt) (s : St) : (pointsM c s).length ≤ 32 := by
  unfold pointsM
  split
  · simp
  · split
    · rw [curveP_length]; exact piecesM_le _
    · split
      · rw [curveP_length]; exact piecesM_le _
      · simp
def lastP (l : List Pt) : Pt := l.getD (l.length - 1) pt0
theorem lastP_append (a : List Pt) {b : List Pt} (hb : b ≠ []) : lastP (a ++ b) = lastP b := by
  have h : 0 < b.length := List.length_pos_iff.2 hb
  unfold lastP
  rw [List.length_append]
  simp only [List.getD]
  rw [List.getElem?_append_right (by omega), show a.length + b.length - 1 - a.length = b.length - 1 by omega]
/-- the first i points, of neighbours that are the same the first one -/
def onceTo (l : List Pt) : Nat → List Pt
  | 0 => []
  | i + 1 => if i = 0 ∨ l.getD i pt0 ≠ l.getD (i - 1) pt0 then onceTo l i ++ [l.getD i pt0] else onceTo l i
theorem onceTo_le (l : List Pt) : ∀ i, (onceTo l i).length ≤ i
  | 0 => Nat.le_refl _
  | i + 1 => by
    have h := onceTo_le l i
    unfold onceTo
    split
    · rw [List.length_append]; simp; exact h
    · omega
def onceM (l : List Pt) : List Pt := onceTo l l.length
/-- points as a line -/
def lineM (l : List Pt) (closed : Bool) : List Pt := if closed = true ∧ 1 < (onceM l).length ∧ (onceM l).getD 0 pt0 = lastP (onceM l) then (onceM l).take ((onceM l).length - 1) else onceM l
theorem lineM_le (l : List Pt) (closed : Bool) : (lineM l closed).length ≤ l.length := by
  have h := onceTo_le l l.length
  unfold lineM onceM
  split
  · rw [List.length_take]; omega
  · exact h
def flushM (now : List Pt) (closed : Bool) : List Ln := if 1 < (lineM now closed).length then [⟨lineM now closed, closed⟩] else []
/-- what still stands of a line when a step comes -/
def nowM (now : List Pt) (s : St) : List Pt := if s.op = 1 ∨ s.op = 5 then [] else now
def traceGo : List Pt → List St → List Ln
  | now, [] => flushM now false
  | now, s :: r => (if s.op = 1 ∨ s.op = 5 then flushM now (decide (s.op = 5)) else []) ++ traceGo (nowM now s ++ pointsM (lastP (nowM now s)) s) r
def traceM (l : List St) : List Ln := if checkM l = 0 then traceGo [] l else []
/-- what a path costs -/
def costM (c : Pt) (s : St) : Nat := if s.op = 1 then 0 else max 1 (pointsM c s).length
def goesM (c : Pt) (s : St) : Pt := if pointsM c s = [] then c else lastP (pointsM c s)
def countGo : Pt → List St → Nat
  | _, [] => 0
  | c, s :: r => costM c s + countGo (goesM c s) r
def countM (l : List St) : Nat := if checkM l = 0 then countGo pt0 l else 0
theorem countGo_le (l : List St) : ∀ c, countGo c l ≤ 32 * l.length := by
  induction l with
  | nil => intro c; simp [countGo]
  | cons s r ih =>
    intro c
    have h1 := ih (goesM c s)
    have h2 := pointsM_le c s
    simp only [countGo, costM, List.length_cons]
    split <;> omega

/-- the ways around a line: the first k -/
def nextP (l : List Pt) (k : Nat) : Pt := if k + 1 < l.length then l.getD (k + 1) pt0 else l.getD 0 pt0
def segTo (l : List Pt) : Nat → List Sg
  | 0 => []
  | k + 1 => if l.getD k pt0 = nextP l k then segTo l k else segTo l k ++ [⟨l.getD k pt0, nextP l k⟩]
def segsOf (l : List Pt) : List Sg := segTo l l.length
def segsM (l : List Ln) : List Sg := l.flatMap fun x => segsOf x.pts
theorem segTo_le (l : List Pt) : ∀ k, (segTo l k).length ≤ k
  | 0 => Nat.le_refl _
  | k + 1 => by
    have h := segTo_le l k
    unfold segTo
    split
    · omega
    · rw [List.length_append]; simp; exact h
theorem segTo_ne (l : List Pt) : ∀ k, ∀ s ∈ segTo l k, s.a ≠ s.b
  | 0, s, h => by simp [segTo] at h
  | k + 1, s, h => by
    unfold segTo at h
    split at h
    · exact segTo_ne l k s h
    · rename_i hne
      rcases List.mem_append.1 h with h | h
      · exact segTo_ne l k s h
      · simp at h; subst h; exact hne
theorem segsM_ne (l : List Ln) : ∀ s ∈ segsM l, s.a ≠ s.b := fun s h => by
  obtain ⟨x, -, hx⟩ := List.mem_flatMap.1 h
  exact segTo_ne _ _ s hx
/-- how often ways leave a point, less how often they come to it -/
def ind (a p : Pt) : Int := if a = p then 1 else 0
def balM (p : Pt) : List Sg → Int
  | [] => 0
  | s :: r => ind s.a p - ind s.b p + balM p r
theorem balM_append (p : Pt) : ∀ a b : List Sg, balM p (a ++ b) = balM p a + balM p b
  | [], b => by simp [balM]
  | s :: r, b => by
    have h := balM_append p r b
    simp only [List.cons_append, balM, h]
    omega
theorem bal_step (p : Pt) (l : List Pt) (k : Nat) : balM p (segTo l (k + 1)) = balM p (segTo l k) + (ind (l.getD k pt0) p - ind (nextP l k) p) := by
  have e : segTo l (k + 1) = if l.getD k pt0 = nextP l k then segTo l k else segTo l k ++ [⟨l.getD k pt0, nextP l k⟩] := rfl
  rw [e]
  split
  · rename_i h; rw [h]; omega
  · rw [balM_append]; simp [balM]
theorem bal_open (p : Pt) (l : List Pt) : ∀ k, k < l.length → balM p (segTo l k) = ind (l.getD 0 pt0) p - ind (l.getD k pt0) p
  | 0, _ => by simp [segTo, balM]
  | k + 1, h => by
    rw [bal_step, bal_open p l k (by omega)]
    have e : nextP l k = l.getD (k + 1) pt0 := if_pos h
    rw [e]
    omega
theorem bal_round (p : Pt) (l : List Pt) : balM p (segsOf l) = 0 := by
  unfold segsOf
  cases hl : l.length with
  | zero => rfl
  | succ n =>
    rw [bal_step, bal_open p l n (by omega)]
    have e : nextP l n = l.getD 0 pt0 := if_neg (by omega)
    rw [e]
    omega
/-- what goes out of a point comes to it as often -/
theorem bal_all (p : Pt) (l : List Ln) : balM p (segsM l) = 0 := by
  induction l with
  | nil => rfl
  | cons x l ih =>
    have e : segsM (x :: l) = segsOf x.pts ++ segsM l := by simp [segsM]
    rw [e, balM_append, bal_round, ih]
    rfl
/-- how many points lines have, less one each -/
def moreM : List Ln → Nat
  | [] => 0
  | x :: r => (x.pts.length - 1) + moreM r
theorem moreM_append : ∀ a b : List Ln, moreM (a ++ b) = moreM a + moreM b
  | [], b => by simp [moreM]
  | x :: a, b => by
    have h := moreM_append a b
    simp only [List.cons_append, moreM, h]
    omega
theorem flush_more (now : List Pt) (c : Bool) : moreM (flushM now c) ≤ now.length - 1 := by
  have h := lineM_le now c
  unfold flushM
  split
  · simp [moreM]; omega
  · simp [moreM]
theorem segs_more (l : List Ln) : (segsM l).length ≤ moreM l + l.length := by
  induction l with
  | nil => simp [segsM]
  | cons x l ih =>
    have e : segsM (x :: l) = segsOf x.pts ++ segsM l := by simp [segsM]
    have h := segTo_le x.pts x.pts.length
    rw [e, List.length_append]
    unfold segsOf
    simp only [moreM, List.length_cons]
    omega
theorem badM_zero {prev : Option Int} {s : St} (h : badM prev s = 0) : (s.op = 1 ∨ s.op = 2 ∨ s.op = 3 ∨ s.op = 4 ∨ s.op = 5) ∧ (s.op = 1 ∨ ∃ o, prev = some o ∧ o ≠ 5) ∧ FitTo s (usesM s.op).toNat := by
  unfold badM at h
  split at h
  · omega
  · rename_i h1
    split at h
    · omega
    · rename_i h2
      split at h
      · rename_i h3
        refine ⟨?_, ?_, h3⟩
        · unfold usesM at h1
          repeat' split at h1
          all_goals omega
        · by_cases h4 : s.op = 1
          · exact .inl h4
          · refine .inr ?_
            cases prev with
            | none => exact absurd ⟨h4, .inl rfl⟩ h2
            | some o => exact ⟨o, rfl, fun e => h2 ⟨h4, .inr (by rw [e])⟩⟩
      · omega
/-- a line's points are no more than what it costs, and one -/
theorem trace_more : ∀ (l : List St) (now : List Pt) (c : Pt) (prev : Option Int), checkGo prev l = 0 → (∀ o, prev = some o → o ≠ 5 → now ≠ [] ∧ c = lastP now) → moreM (traceGo now l) ≤ (now.length - 1) + countGo c l
  | [], now, c, prev, _, _ => by
    have := flush_more now false
    simp only [traceGo, countGo]
    omega
  | s :: r, now, c, prev, hc, hn => by
    have hb : badM prev s = 0 := by
      unfold checkGo at hc
      split at hc
      · assumption
      · exact absurd hc (by assumption)
    have hr : checkGo (some s.op) r = 0 := by
      unfold checkGo at hc
      rwa [if_pos hb] at hc
    obtain ⟨h1, h2, -⟩ := badM_zero hb
    have hf := flush_more now (decide (s.op = 5))
    simp only [traceGo, countGo, moreM_append]
    by_cases ho : s.op = 1 ∨ s.op = 5
    · have e1 : nowM now s = [] := if_pos ho
      rw [if_pos ho, e1, List.nil_append]
      rcases ho with ho | ho
      · have e2 : ∀ x, pointsM x s = [s.p0] := fun x => if_pos (.inl ho)
        have ih := trace_more r [s.p0] (goesM c s) (some s.op) hr (fun o _ _ => ⟨by simp, by unfold goesM; rw [e2]; simp⟩)
        rw [e2]
        simp only [List.length_cons, List.length_nil] at ih
        unfold costM
        rw [if_pos ho]
        omega
      · have e2 : ∀ x, pointsM x s = [] := fun x => by unfold pointsM; rw [if_neg (by omega), if_neg (by omega), if_neg (by omega)]
        have ih := trace_more r [] (goesM c s) (some s.op) hr (fun o h h5 => absurd (by cases h; exact ho) h5)
        rw [e2]
        simp only [List.length_nil] at ih
        omega
    · have e1 : nowM now s = now := if_neg ho
      rw [if_neg ho, e1]
      obtain ⟨hnow, rfl⟩ : now ≠ [] ∧ c = lastP now := by
        rcases h2 with h2 | ⟨o, ho1, ho2⟩
        · exact absurd (.inl h2) ho
        · exact hn o ho1 ho2
      have hlen : 0 < now.length := List.length_pos_iff.2 hnow
      obtain ⟨P, hP⟩ : ∃ P, pointsM (lastP now) s = P := ⟨_, rfl⟩
      have ih := trace_more r (now ++ P) (goesM (lastP now) s) (some s.op) hr (fun o _ _ => ⟨by simp [hnow], by
        unfold goesM
        rw [hP]
        by_cases hp : P = []
        · rw [if_pos hp, hp, List.append_nil]
        · rw [if_neg hp, lastP_append now hp]⟩)
      rw [hP]
      rw [List.length_append] at ih
      unfold costM
      rw [hP, if_neg (fun e => ho (.inl e))]
      simp only [moreM]
      omega
/-- a path's ways are no more than what it costs, and one for each line -/
theorem segs_few (l : List St) : (segsM (traceM l)).length ≤ countM l + (traceM l).length := by
  have h1 := segs_more (traceM l)
  unfold traceM countM at *
  by_cases hc : checkM l = 0
  · rw [if_pos hc] at h1 ⊢
    rw [if_pos hc]
    have hg : checkGo none l = 0 := by
      unfold checkM at hc
      split at hc
      · omega
      · exact hc
    have h2 := trace_more l [] pt0 none hg (fun o h => by cases h)
    simp only [List.length_nil] at h2
    omega
  · rw [if_neg hc]
    simp [segsM]
end Go.Proofs.Ytbgjpmijegeeiaa
/- Rows of steps, of ways, of lines in memory. -/

namespace Go.Proofs.Ytbgjpmijegeeiaa
open Go.RowKit

def stCells (s : St) : List Value := [.int .i64 s.op, .int .i64 s.p0.x, .int .i64 s.p0.y, .int .i64 s.p1.x, .int .i64 s.p1.y, .int .i64 s.p2.x, .int .i64 s.p2.y]
def stV (s : St) : Value := .agg #[.int .i64 s.op, .int .i64 s.p0.x, .int .i64 s.p0.y, .int .i64 s.p1.x, .int .i64 s.p1.y, .int .i64 s.p2.x, .int .i64 s.p2.y]
def stRow (l : List St) : List Value := l.flatMap stCells
theorem stCells_length (s : St) : (stCells s).length = 7 := rfl
theorem stRow_length (l : List St) : (stRow l).length = l.length * 7 := flat_length stCells_length l
theorem RdV.st {w : World} {B : Nat} {p : Option Addr} {l : List St} (h : RdV w B p (stRow l)) {i : Nat} (hi : i < l.length) : ∃ b o, p = some ⟨b, o, none⟩ ∧ b < B ∧ w.cell? ⟨b, o + i * 7, none⟩ = some (.int .i64 l[i].op) ∧
    w.cell? ⟨b, o + i * 7 + 1, none⟩ = some (.int .i64 l[i].p0.x) ∧ w.cell? ⟨b, o + i * 7 + 2, none⟩ = some (.int .i64 l[i].p0.y) ∧ w.cell? ⟨b, o + i * 7 + 3, none⟩ = some (.int .i64 l[i].p1.x) ∧ w.cell? ⟨b, o + i * 7 + 4, none⟩ = some (.int .i64 l[i].p1.y) ∧
    w.cell? ⟨b, o + i * 7 + 5, none⟩ = some (.int .i64 l[i].p2.x) ∧ w.cell? ⟨b, o + i * 7 + 6, none⟩ = some (.int .i64 l[i].p2.y) := by
  obtain ⟨b, o, e, hb, hc⟩ := RdV.elem stCells_length h (by omega) hi
  exact ⟨b, o, e, hb, hc 0 _ rfl, hc 1 _ rfl, hc 2 _ rfl, hc 3 _ rfl, hc 4 _ rfl, hc 5 _ rfl, hc 6 _ rfl⟩
/-- a step's point of a number -/
theorem RdV.stPt {w : World} {B : Nat} {p : Option Addr} {l : List St} (h : RdV w B p (stRow l)) {i : Nat} (hi : i < l.length) {k : Nat} (hk : k < 3) : ∃ b o, p = some ⟨b, o, none⟩ ∧ b < B ∧ w.cell? ⟨b, o + i * 7 + 1 + k * 2, none⟩ = some (.int .i64 (l[i].pt k).x) ∧ w.cell? ⟨b, o + i * 7 + 1 + k * 2 + 1, none⟩ = some (.int .i64 (l[i].pt k).y) := by
  obtain ⟨b, o, e, hb, -, h0, h1, h2, h3, h4, h5⟩ := h.st hi
  refine ⟨b, o, e, hb, ?_⟩
  match k, hk with
  | 0, _ => exact ⟨h0, h1⟩
  | 1, _ => exact ⟨h2, h3⟩
  | 2, _ => exact ⟨h4, h5⟩
def sgCells (s : Sg) : List Value := [.int .i64 s.a.x, .int .i64 s.a.y, .int .i64 s.b.x, .int .i64 s.b.y]
def sgRow (l : List Sg) : List Value := l.flatMap sgCells
theorem sgCells_length (s : Sg) : (sgCells s).length = 4 := rfl
theorem sgRow_append (a b : List Sg) : sgRow (a ++ b) = sgRow a ++ sgRow b := by simp [sgRow]
theorem sgRow_one (s : Sg) : sgRow [s] = [.int .i64 s.a.x, .int .i64 s.a.y, .int .i64 s.b.x, .int .i64 s.b.y] := rfl
theorem RdV.sg {w : World} {B : Nat} {p : Option Addr} {l : List Sg} (h : RdV w B p (sgRow l)) {i : Nat} (hi : i < l.length) : ∃ b o, p = some ⟨b, o, none⟩ ∧ b < B ∧ w.cell? ⟨b, o + i * 4, none⟩ = some (.int .i64 l[i].a.x) ∧ w.cell? ⟨b, o + i * 4 + 1, none⟩ = some (.int .i64 l[i].a.y) ∧ w.cell? ⟨b, o + i * 4 + 2, none⟩ = some (.int .i64 l[i].b.x) ∧ w.cell? ⟨b, o + i * 4 + 3, none⟩ = some (.int .i64 l[i].b.y) := by
  obtain ⟨b, o, e, hb, hc⟩ := RdV.elem sgCells_length h (by omega) hi
  exact ⟨b, o, e, hb, hc 0 _ rfl, hc 1 _ rfl, hc 2 _ rfl, hc 3 _ rfl⟩
theorem info_sg : (Try.prog.info? 44).map (fun i => (i.zero, i.size, i.bytes)) = some (some (.agg #[.int .i64 0, .int .i64 0, .int .i64 0, .int .i64 0]), 4, 32) := by kernel_rfl
theorem info_ln : (Try.prog.info? 57).map (fun i => (i.zero, i.size, i.bytes)) = some (some (.agg #[.slice none 0 0, .bool false]), 2, 32) := by kernel_rfl

/-- a line as it lies -/
structure Lv where
  A : Option Addr
  c : Nat
  pts : List Pt
  closed : Bool
def Lv.ln (x : Lv) : Ln := ⟨x.pts, x.closed⟩
def Lv.hd (x : Lv) : Value := .slice x.A x.pts.length x.c
def lvCells (x : Lv) : List Value := [.slice x.A x.pts.length x.c, .bool x.closed]
def lvRow (l : List Lv) : List Value := l.flatMap lvCells
theorem lvCells_length (x : Lv) : (lvCells x).length = 2 := rfl
theorem lvRow_append (a b : List Lv) : lvRow (a ++ b) = lvRow a ++ lvRow b := by simp [lvRow]
theorem lvRow_one (x : Lv) : lvRow [x] = [.slice x.A x.pts.length x.c, .bool x.closed] := by simp [lvRow, lvCells]
/-- lines that are read -/
def RdLn (w : World) (B : Nat) (p : Option Addr) (l : List Lv) : Prop := RdV w B p (lvRow l) ∧ ∀ x ∈ l, RdV w B x.A (ptRow x.pts)
theorem RdLn.below {w w' : World} {B : Nat} {p : Option Addr} {l : List Lv} (h : RdLn w B p l) (hb : Below B w w') : RdLn w' B p l := ⟨h.1.below hb, fun x hx => (h.2 x hx).below hb⟩
theorem RdLn.mono {w : World} {B B' : Nat} {p : Option Addr} {l : List Lv} (h : RdLn w B p l) (hb : B ≤ B') : RdLn w B' p l := ⟨h.1.mono hb, fun x hx => (h.2 x hx).mono hb⟩
theorem RdLn.on {w w' : World} {p : Option Addr} {l : List Lv} (h : RdLn w w.heap.size p l) (hb : Below w.heap.size w w') : RdLn w' w'.heap.size p l := (h.below hb).mono hb.size
theorem RdLn.nil (w : World) (B : Nat) (p : Option Addr) : RdLn w B p [] := ⟨RdV.nil w B p, fun x hx => by cases hx⟩
theorem RdLn.row {w : World} {B : Nat} {p : Option Addr} {l : List Lv} (h : RdLn w B p l) {i : Nat} (hi : i < l.length) : ∃ b o, p = some ⟨b, o, none⟩ ∧ b < B ∧ w.cell? ⟨b, o + i * 2, none⟩ = some (.slice l[i].A l[i].pts.length l[i].c) ∧ w.cell? ⟨b, o + i * 2 + 1, none⟩ = some (.bool l[i].closed) ∧ RdV w B l[i].A (ptRow l[i].pts) := by
  obtain ⟨b, o, e, hb, hc⟩ := RdV.elem lvCells_length h.1 (by omega) hi
  exact ⟨b, o, e, hb, hc 0 _ rfl, hc 1 _ rfl, h.2 _ (List.getElem_mem hi)⟩
/-- rows of unlike kinds lie in unlike blocks -/
theorem own_apartK {w : World} {base base' k k' : Nat} {e e' : TypeId} {v v' : Value} {n n' : Nat} {xs xs' : List Value} (hne : e ≠ e') (h : w.ownsRow base e k v n xs) (h' : w.ownsRow base' e' k' v' n' xs') : v.ownBlock = none ∨ v.ownBlock ≠ v'.ownBlock := by
  rcases h.2 with ⟨rfl, _⟩ | ⟨g, cap, cur, rfl, _, hg, _⟩
  · exact .inl rfl
  · refine .inr ?_
    rcases h'.2 with ⟨rfl, _⟩ | ⟨g', cap', cur', rfl, _, hg', _⟩
    · simp [Value.ownBlock]
    · intro e1
      simp only [Value.ownBlock, Option.some.injEq] at e1
      subst e1
      rw [hg] at hg'
      simp only [Option.some.injEq, Obj.cells.injEq] at hg'
      exact hne hg'.2.1
theorem own_mono {w : World} {base base' k : Nat} {e : TypeId} {v : Value} {n : Nat} {xs : List Value} (h : w.ownsRow base e k v n xs) (hb : base' ≤ base) : w.ownsRow base' e k v n xs := by
  refine ⟨h.1, ?_⟩
  rcases h.2 with hn | ⟨g, cap, cur, rfl, hbg, rest⟩
  · exact .inl hn
  · exact .inr ⟨g, cap, cur, rfl, Nat.le_trans hb hbg, rest⟩
/-- lines that a call made: the outer row in its own block, each line's points in one of another kind -/
def OwnLn (w : World) (base : Nat) (v : Value) (l : List Lv) : Prop :=
  w.ownsRow base 57 2 v l.length (lvRow l) ∧ ∀ x ∈ l, w.ownsRow base 42 2 x.hd x.pts.length (ptRow x.pts)
theorem OwnLn.nil (w : World) (base : Nat) : OwnLn w base (.slice none 0 0) [] := ⟨World.ownsRow_nil _ _ _ _, fun x hx => by cases hx⟩
theorem OwnLn.kept {w w' : World} {base : Nat} {v : Value} {l : List Lv} (h : OwnLn w base v l) (hb : Below w.heap.size w w') : OwnLn w' base v l := ⟨own_below h.1 hb, fun x hx => own_below (h.2 x hx) hb⟩
theorem OwnLn.lt {w : World} {base : Nat} {v : Value} {l : List Lv} (h : OwnLn w base v l) : ∀ k, v.ownBlock = some k → base ≤ k ∧ k < w.heap.size := h.1.lt
/-- a line more -/
theorem OwnLn.snoc {w w' : World} {base : Nat} {v v' : Value} {l : List Lv} {x : Lv} (h : OwnLn w base v l) (hx : w.ownsRow base 42 2 x.hd x.pts.length (ptRow x.pts)) (hg : w.grownBy w' v.ownBlock)
    (ho : w'.ownsRow base 57 2 v' (l.length + 1) (lvRow l ++ lvCells x)) : OwnLn w' base v' (l ++ [x]) := by
  refine ⟨by rw [lvRow_append, List.length_append]; simpa [lvRow] using ho, fun y hy => ?_⟩
  have hy' : w.ownsRow base 42 2 y.hd y.pts.length (ptRow y.pts) := by
    rcases List.mem_append.1 hy with h1 | h1
    · exact h.2 y h1
    · simp at h1; subst h1; exact hx
  exact hy'.kept hg (own_apartK (by decide) hy' h.1)
theorem OwnLn.rd {w : World} {base : Nat} {v : Value} {l : List Lv} (h : OwnLn w base v l) : ∃ p cap, v = .slice p l.length cap ∧ l.length ≤ cap ∧ RdLn w w.heap.size p l := by
  obtain ⟨p, cap, e, hc, -, hr⟩ := RdV.ofOwnK h.1
  refine ⟨p, cap, e, hc, hr, fun x hm => ?_⟩
  obtain ⟨q, c', e', -, -, hr'⟩ := RdV.ofOwnK (h.2 x hm)
  unfold Lv.hd at e'
  cases e'
  exact hr'
end Go.Proofs.Ytbgjpmijegeeiaa
/- Paths, the document's own: Uses, Check. -/

namespace Go.Proofs.Ytbgjpmijegeeiaa
open Go.RowKit

set_option maxRecDepth 10000 in
set_option maxHeartbeats 1600000 in
theorem ref12_Uses (op : Int) (w : World) :
    Calls Try.prog 12 #[.int .i64 op] w fun e w' => e = .returned (.int .i64 (usesM op)) ∧ Below w.heap.size w w' := by
  by_cases h1 : op < 1
  · have hu : usesM op = -1 := by unfold usesM; repeat' split; all_goals omega
    rw [hu]
    clear hu
    go_enter Try.func12, Try.ntmps12
    go_wp2_with fail
    go_ret
    exact ⟨rfl, Below.refl _ _⟩
  · by_cases h2 : 5 < op
    · have hu : usesM op = -1 := by unfold usesM; repeat' split; all_goals omega
      rw [hu]
      clear hu
      go_enter Try.func12, Try.ntmps12
      go_wp2_with fail
      go_ret
      exact ⟨rfl, Below.refl _ _⟩
    · obtain ⟨W, hW, kW, B0⟩ : ∃ W, w.alloc (.cells #[.int .i64 1, .int .i64 1, .int .i64 2, .int .i64 3, .int .i64 0] 3) = W ∧ Box W w.heap.size 3 [.int .i64 1, .int .i64 1, .int .i64 2, .int .i64 3, .int .i64 0] ∧ Below w.heap.size w W := ⟨_, rfl, Box.new w _ [.int .i64 1, .int .i64 1, .int .i64 2, .int .i64 3, .int .i64 0], (Below.refl _ _).alloc (Nat.le_refl _) _⟩
      have c0 := kW.cell 0 rfl
      have c1 := kW.cell 1 rfl
      have c2 := kW.cell 2 rfl
      have c3 := kW.cell 3 rfl
      have c4 := kW.cell 4 rfl
      have HB := Lib.hid B0
      clear kW B0
      have h5 : op = 1 ∨ op = 2 ∨ op = 3 ∨ op = 4 ∨ op = 5 := by omega
      clear h1 h2
      rcases h5 with rfl | rfl | rfl | rfl | rfl
      all_goals
        go_enter Try.func12, Try.ntmps12
        go_wp2_with (rw [hW])
        try rw [hW]
        go_ret
        exact ⟨rfl, HB.out⟩

theorem FitTo.step {s : St} {k : Nat} (h : FitTo s k) (hk : FitP (s.pt k)) : FitTo s (k + 1) := fun j hj => by
  rcases Nat.lt_or_ge j k with h1 | h1
  · exact h j h1
  · have : j = k := by omega
    subst this; exact hk
theorem badM_no {prev : Option Int} {s : St} (h : usesM s.op < 0) : badM prev s = 2 := if_pos h
theorem badM_order {prev : Option Int} {s : St} (h : ¬ usesM s.op < 0) (h1 : s.op ≠ 1) (h2 : prev = none ∨ prev = some 5) : badM prev s = 12 := by
  unfold badM
  rw [if_neg h, if_pos ⟨h1, h2⟩]
theorem badM_fit {prev : Option Int} {s : St} {u : Nat} (h : usesM s.op = (u : Int)) (h1 : s.op = 1 ∨ ∃ o, prev = some o ∧ o ≠ 5) : badM prev s = if FitTo s u then 0 else 4 := by
  unfold badM
  rw [h, if_neg (by omega), if_neg, Int.toNat_natCast]
  rintro ⟨h2, h3⟩
  rcases h1 with h1 | ⟨o, rfl, h1⟩
  · exact h2 h1
  · rcases h3 with h3 | h3
    · cases h3
    · cases h3; exact h1 rfl

set_option maxRecDepth 10000 in
set_option maxHeartbeats 6400000 in
theorem ref12_Check (L : List St) (A : Option Addr) (c : Nat) (w : World) (hL : RdV w w.heap.size A (stRow L)) (hl : L.length ≤ 4611686018427387904) :
    Calls Try.prog 20 #[.slice A L.length c] w fun e w' => e = .returned (.int .i64 (checkM L)) ∧ Below w.heap.size w w' := by
  obtain ⟨n, hn⟩ : ∃ n, L.length = n := ⟨_, rfl⟩
  obtain ⟨r, hr⟩ : ∃ r, checkM L = r := ⟨_, rfl⟩
  have HN := Lib.hid hn
  have HL := Lib.hid hL
  rw [hn] at hl ⊢
  rw [hr]
  by_cases h200 : 200 < n
  · have hr7 : r = 7 := by rw [← hr]; unfold checkM; rw [if_pos (by omega)]
    subst hr7
    have hi : (200 : Int) < (n : Int) := by omega
    clear hr hn hL
    go_enter Try.func20, Try.ntmps20
    go_wp2_with fail
    go_ret
    exact ⟨rfl, Below.refl _ _⟩
  · have HG := Lib.hid (show checkGo (prevAt L 0) (L.drop 0) = r by rw [← hr]; unfold checkM; rw [if_neg (by omega)]; rfl)
    have hi : ¬ (200 : Int) < (n : Int) := by omega
    clear hr hn hL
    go_enter Try.func20, Try.ntmps20
    go_wp2_with fail
    go_loopg [3] n (fun gh it wr => ∃ i : Nat, it = .int .i64 (i : Int) ∧ gh + i = n ∧ checkGo (prevAt L i) (L.drop i) = r ∧ Below w.heap.size w wr)
    case atStart => exact ⟨0, rfl, by omega, HG.out, Below.refl _ _⟩
    case round =>
      obtain ⟨i, rfl, hg, hgo, hB⟩ := hrel
      have HGI := Lib.hid hg
      by_cases hlt : i < n
      · have hlt' : i < L.length := by rw [HN.out]; exact hlt
        obtain ⟨b, o, rfl, hb, e0, -⟩ := (HL.out.below hB).st (i := i) hlt'
        have hil : (i : Int) < (n : Int) := by omega
        have hst := checkGo_step hlt'
        rw [hgo] at hst
        have HP := Lib.hid (fun k (hk : k < 3) V (h : Below w.heap.size w V) => ((HL.out.below h).stPt hlt' hk))
        obtain ⟨s, hs⟩ : ∃ s, L[i] = s := ⟨_, rfl⟩
        rw [hs] at e0 hst
        simp only [hs] at HP
        have cU := fun V => ref12_Uses s.op V
        obtain ⟨u, hu⟩ : ∃ u, usesM s.op = u := ⟨_, rfl⟩
        have hu3 := usesM_in s.op
        rw [hu] at hu3
        simp only [hu] at cU
        obtain ⟨op, hop⟩ : ∃ op, s.op = op := ⟨_, rfl⟩
        rw [hop] at e0
        simp only [hop] at cU
        have CU := Lib.hid cU
        have HU := Lib.hid hu
        have HOP := Lib.hid hop
        have HST := Lib.hid hst
        have HB := Lib.hid hB
        clear hst hgo hB cU hu hop hs hlt'
        by_cases hu0 : u < 0
        · go_wp2_with (go_at_call 12; with_reducible refine Calls.mono (CU.out _) ?_; rintro e w1 ⟨rfl, b1⟩)
          have hBB := HB.out.trans (b1.mono HB.out.size)
          have hb2 := badM_no (prev := prevAt L i) (s := s) (by rw [HU.out]; exact hu0)
          have hr2 : r = 2 := by have h := HST.out; rw [hb2] at h; simpa using h
          go_ret
          exact ⟨by rw [hr2]; rfl, hBB⟩
        · obtain ⟨un, rfl⟩ : ∃ un : Nat, u = (un : Int) := ⟨u.toNat, by omega⟩
          have hun : un ≤ 3 := by omega
          have hnu : ¬ usesM s.op < 0 := by rw [HU.out]; omega
          obtain ⟨o5, ho5⟩ : ∃ o5, (L.getD (i - 1) st0).op = o5 := ⟨_, rfl⟩
          have hm1 : IntKind.i64.wrap ((i : Int) - 1) = (i : Int) - 1 := IntWalk.i64_in _ (by omega)
          have hcell : 0 < i → ∀ V, Below w.heap.size w V → V.cell? ⟨b, o + (i - 1) * 7, none⟩ = some (.int .i64 o5) := fun h0 V hV => by
            have h1 : i - 1 < L.length := by rw [HN.out]; omega
            obtain ⟨b', o', e', -, h2, -⟩ := (HL.out.below hV).st (i := i - 1) h1
            cases e'
            rw [h2, ← ho5]
            simp [List.getD, h1]
          have hprev : 0 < i → prevAt L i = some o5 := fun h0 => by unfold prevAt; rw [if_neg (by omega), ho5]
          have hprev0 : i = 0 → prevAt L i = none := fun h0 => by unfold prevAt; rw [if_pos h0]
          have hbw : b < wr.heap.size := Nat.lt_of_lt_of_le hb HB.out.size
          by_cases hbad : op ≠ 1 ∧ (i = 0 ∨ o5 = 5)
          · obtain ⟨hb1, hb2⟩ := hbad
            have hbo := badM_order (prev := prevAt L i) hnu (by rw [HOP.out]; exact hb1) (by
              rcases hb2 with h | h
              · exact .inl (hprev0 h)
              · by_cases h0 : i = 0
                · exact .inl (hprev0 h0)
                · exact .inr (by rw [hprev (by omega), h]))
            have HR := Lib.hid (show r = 12 by have h := HST.out; rw [hbo] at h; simpa using h)
            have hop1 : (op == 1) = false := by simpa using hb1
            clear hprev hprev0 hbo hnu ho5
            by_cases h0 : i = 0
            · subst h0
              simp only [Nat.zero_mul, Nat.add_zero] at e0
              clear hb2
              go_wp2_with (go_at_call 12; with_reducible refine Calls.mono (CU.out _) ?_; rintro e w1 ⟨rfl, b1⟩
                           have hBB := HB.out.trans (b1.mono HB.out.size)
                           have e0 := (b1.cell (p := ⟨b, o, none⟩) hbw).trans e0
                           clear b1)
              go_ret
              exact ⟨by rw [HR.out]; rfl, hBB⟩
            · have h5 : o5 = 5 := by omega
              subst h5
              have i0 : ((i : Int) == 0) = false := by simp; omega
              have i1 : 0 ≤ (i : Int) - 1 ∧ (i : Int) - 1 < (n : Int) := by omega
              have t1 : ((i : Int) - 1).toNat = i - 1 := by omega
              clear hb2
              go_wp2_with (go_at_call 12; with_reducible refine Calls.mono (CU.out _) ?_; rintro e w1 ⟨rfl, b1⟩
                           have hBB := HB.out.trans (b1.mono HB.out.size)
                           have e0 := (b1.cell (p := ⟨b, o + i * 7, none⟩) hbw).trans e0
                           have e5 := hcell (by omega) w1 hBB
                           clear b1)
              go_ret
              exact ⟨by rw [HR.out]; rfl, hBB⟩
          · have hgood : s.op = 1 ∨ ∃ o, prevAt L i = some o ∧ o ≠ 5 := by
              rw [HOP.out]
              by_cases h1 : op = 1
              · exact .inl h1
              · refine .inr ⟨o5, hprev ?_, fun h => hbad ⟨h1, .inr h⟩⟩
                rcases Nat.eq_zero_or_pos i with h0 | h0
                · exact absurd ⟨h1, .inl h0⟩ hbad
                · exact h0
            have HFB := Lib.hid (badM_fit (u := un) HU.out hgood)
            clear hprev hprev0 hnu ho5 hgood
            by_cases h1 : op = 1
            · subst h1
              clear hbad
              go_wp2_with (go_at_call 12; with_reducible refine Calls.mono (CU.out _) ?_; rintro e w1 ⟨rfl, b1⟩
                           have hBB := HB.out.trans (b1.mono HB.out.size)
                           have e0 := (b1.cell (p := ⟨b, o + i * 7, none⟩) hbw).trans e0
                           clear b1)
              have HB1 := Lib.hid hBB
              clear hBB e0
              go_loopg [5] un (fun gh it wr => ∃ k : Nat, it = .int .i64 (k : Int) ∧ gh + k = un ∧ FitTo s k ∧ Below w.heap.size w wr)
              case atStart => exact ⟨0, rfl, by omega, fun j hj => absurd hj (by omega), HB1.out⟩
              case round =>
                obtain ⟨k, rfl, hgk, hfit, hBk⟩ := hrel
                by_cases hk : k < un
                · obtain ⟨b', o', e', -, f0, f1⟩ := HP.out k (by omega) _ hBk
                  cases e'
                  have hkl : (k : Int) < (un : Int) := by omega
                  have hk3 : (k : Int) < 3 := by omega
                  have HFS := Lib.hid (FitTo.step hfit)
                  have HFN := Lib.hid (fun (h : ¬ FitP (s.pt k)) (h2 : FitTo s un) => h (h2 k hk))
                  generalize s.pt k = p at f0 f1 HFS HFN
                  obtain ⟨d, hd⟩ : ∃ d : Bool, decide (FitP p) = d := ⟨_, rfl⟩
                  have cF := fun V => ref10_Fits p V
                  rw [hd] at cF
                  obtain ⟨x, y⟩ := p
                  unfold ptV at cF
                  dsimp only at f0 f1 cF
                  have CF := Lib.hid cF
                  have HBk := Lib.hid hBk
                  have HD := Lib.hid hd
                  clear cF hBk hd hfit
                  cases d with
                  | true =>
                    have HX := Lib.hid (HFS.out (of_decide_eq_true HD.out))
                    clear HFS HFN
                    go_wp2_with (go_at_call 31; with_reducible refine Calls.mono (CF.out _) ?_; rintro e w2 ⟨rfl, b2⟩)
                    have hB2 := HBk.out.trans (b2.mono HBk.out.size)
                    go_roundg (un - (k + 1))
                    case measure => omega
                    case rel => exact ⟨k + 1, by simp, by omega, HX.out, hB2⟩
                  | false =>
                    have HX := Lib.hid (show r = 4 from by
                      have h := HST.out
                      rw [HFB.out, if_neg (HFN.out (of_decide_eq_false HD.out))] at h
                      simpa using h)
                    clear HFS HFN
                    go_wp2_with (go_at_call 31; with_reducible refine Calls.mono (CF.out _) ?_; rintro e w2 ⟨rfl, b2⟩)
                    have hB2 := HBk.out.trans (b2.mono HBk.out.size)
                    go_ret
                    exact ⟨by rw [HX.out]; rfl, hB2⟩
                · obtain rfl : k = un := by omega
                  have HX := Lib.hid (show checkGo (prevAt L (i + 1)) (L.drop (i + 1)) = r from by
                    have h := HST.out
                    rw [HFB.out, if_pos hfit, if_pos rfl] at h
                    exact h.symm)
                  have HBk := Lib.hid hBk
                  clear hBk hfit
                  go_wp2_with fail
                  go_roundg (n - (i + 1))
                  case measure => have := HGI.out; omega
                  case rel => exact ⟨i + 1, by simp, by omega, HX.out, HBk.out⟩
            · have h0 : 0 < i := by
                rcases Nat.eq_zero_or_pos i with h0 | h0
                · exact absurd ⟨h1, .inl h0⟩ hbad
                · exact h0
              have h5 : ¬ o5 = 5 := fun h => hbad ⟨h1, .inr h⟩
              have hop1 : (op == 1) = false := by simpa using h1
              have h5b : (o5 == 5) = false := by simpa using h5
              have i0 : ((i : Int) == 0) = false := by simp; omega
              have i1 : 0 ≤ (i : Int) - 1 ∧ (i : Int) - 1 < (n : Int) := by omega
              have t1 : ((i : Int) - 1).toNat = i - 1 := by omega
              clear hbad
              go_wp2_with (go_at_call 12; with_reducible refine Calls.mono (CU.out _) ?_; rintro e w1 ⟨rfl, b1⟩
                           have hBB := HB.out.trans (b1.mono HB.out.size)
                           have e0 := (b1.cell (p := ⟨b, o + i * 7, none⟩) hbw).trans e0
                           have e5 := hcell (by omega) w1 hBB
                           clear b1)
              have HB1 := Lib.hid hBB
              clear hBB e0 e5
              go_loopg [5] un (fun gh it wr => ∃ k : Nat, it = .int .i64 (k : Int) ∧ gh + k = un ∧ FitTo s k ∧ Below w.heap.size w wr)
              case atStart => exact ⟨0, rfl, by omega, fun j hj => absurd hj (by omega), HB1.out⟩
              case round =>
                obtain ⟨k, rfl, hgk, hfit, hBk⟩ := hrel
                by_cases hk : k < un
                · obtain ⟨b', o', e', -, f0, f1⟩ := HP.out k (by omega) _ hBk
                  cases e'
                  have hkl : (k : Int) < (un : Int) := by omega
                  have hk3 : (k : Int) < 3 := by omega
                  have HFS := Lib.hid (FitTo.step hfit)
                  have HFN := Lib.hid (fun (h : ¬ FitP (s.pt k)) (h2 : FitTo s un) => h (h2 k hk))
                  generalize s.pt k = p at f0 f1 HFS HFN
                  obtain ⟨d, hd⟩ : ∃ d : Bool, decide (FitP p) = d := ⟨_, rfl⟩
                  have cF := fun V => ref10_Fits p V
                  rw [hd] at cF
                  obtain ⟨x, y⟩ := p
                  unfold ptV at cF
                  dsimp only at f0 f1 cF
                  have CF := Lib.hid cF
                  have HBk := Lib.hid hBk
                  have HD := Lib.hid hd
                  clear cF hBk hd hfit
                  cases d with
                  | true =>
                    have HX := Lib.hid (HFS.out (of_decide_eq_true HD.out))
                    clear HFS HFN
                    go_wp2_with (go_at_call 31; with_reducible refine Calls.mono (CF.out _) ?_; rintro e w2 ⟨rfl, b2⟩)
                    have hB2 := HBk.out.trans (b2.mono HBk.out.size)
                    go_roundg (un - (k + 1))
                    case measure => omega
                    case rel => exact ⟨k + 1, by simp, by omega, HX.out, hB2⟩
                  | false =>
                    have HX := Lib.hid (show r = 4 from by
                      have h := HST.out
                      rw [HFB.out, if_neg (HFN.out (of_decide_eq_false HD.out))] at h
                      simpa using h)
                    clear HFS HFN
                    go_wp2_with (go_at_call 31; with_reducible refine Calls.mono (CF.out _) ?_; rintro e w2 ⟨rfl, b2⟩)
                    have hB2 := HBk.out.trans (b2.mono HBk.out.size)
                    go_ret
                    exact ⟨by rw [HX.out]; rfl, hB2⟩
                · obtain rfl : k = un := by omega
                  have HX := Lib.hid (show checkGo (prevAt L (i + 1)) (L.drop (i + 1)) = r from by
                    have h := HST.out
                    rw [HFB.out, if_pos hfit, if_pos rfl] at h
                    exact h.symm)
                  have HBk := Lib.hid hBk
                  clear hBk hfit
                  go_wp2_with fail
                  go_roundg (n - (i + 1))
                  case measure => have := HGI.out; omega
                  case rel => exact ⟨i + 1, by simp, by omega, HX.out, HBk.out⟩
      · obtain rfl : i = n := by omega
        have h0 : (0 : Int) = r := by
          have h := checkGo_end L
          rw [HN.out] at h
          exact h.symm.trans hgo
        have HB := Lib.hid (And.intro h0 hB)
        clear h0 hB hgo
        go_wp2_with fail
        go_ret
        exact ⟨by rw [← HB.out.1]; rfl, HB.out.2⟩
end Go.Proofs.Ytbgjpmijegeeiaa
/- Paths, the document's own: Points. -/

namespace Go.Proofs.Ytbgjpmijegeeiaa
open Go.RowKit

/-- points that a call hands back -/
def GivesPts (l : List Pt) (w : World) (e : Ending) (w' : World) : Prop := (∃ q k, e = .returned (.slice q l.length k) ∧ (l = [] → q = none ∧ k = 0) ∧ RdV w' w'.heap.size q (ptRow l)) ∧ Below w.heap.size w w'
theorem pt_boxes (w : World) (c : Pt) (s : St) : ∃ W, (w.alloc (.cells #[.int .i64 c.x, .int .i64 c.y] 42)).alloc (.cells #[.int .i64 s.op, .int .i64 s.p0.x, .int .i64 s.p0.y, .int .i64 s.p1.x, .int .i64 s.p1.y, .int .i64 s.p2.x, .int .i64 s.p2.y] 52) = W ∧
    (W.cell? ⟨w.heap.size, 0, none⟩ = some (.int .i64 c.x) ∧ W.cell? ⟨w.heap.size, 1, none⟩ = some (.int .i64 c.y)) ∧ (W.cell? ⟨w.heap.size + 1, 0, none⟩ = some (.int .i64 s.op) ∧ W.cell? ⟨w.heap.size + 1, 1, none⟩ = some (.int .i64 s.p0.x) ∧ W.cell? ⟨w.heap.size + 1, 2, none⟩ = some (.int .i64 s.p0.y) ∧
      W.cell? ⟨w.heap.size + 1, 3, none⟩ = some (.int .i64 s.p1.x) ∧ W.cell? ⟨w.heap.size + 1, 4, none⟩ = some (.int .i64 s.p1.y) ∧ W.cell? ⟨w.heap.size + 1, 5, none⟩ = some (.int .i64 s.p2.x) ∧ W.cell? ⟨w.heap.size + 1, 6, none⟩ = some (.int .i64 s.p2.y)) ∧ Below w.heap.size w W := by
  have k1 := (Box.new w 42 [.int .i64 c.x, .int .i64 c.y]).alloc (.cells #[.int .i64 s.op, .int .i64 s.p0.x, .int .i64 s.p0.y, .int .i64 s.p1.x, .int .i64 s.p1.y, .int .i64 s.p2.x, .int .i64 s.p2.y] 52)
  have k2 := Box.at_new (w.alloc (.cells #[.int .i64 c.x, .int .i64 c.y] 42)) 52 (stCells s) (g := w.heap.size + 1) (by simp)
  exact ⟨_, rfl, (Box.pair k1).1, ⟨k2.cell 0 rfl, k2.cell 1 rfl, k2.cell 2 rfl, k2.cell 3 rfl, k2.cell 4 rfl, k2.cell 5 rfl, k2.cell 6 rfl⟩, ((Below.refl _ w).alloc (Nat.le_refl _) _).alloc (by simp) _⟩

set_option maxRecDepth 10000 in
set_option maxHeartbeats 3200000 in
theorem ref12_Points (c : Pt) (s : St) (hs : s.op = 3 → FitL [c, s.p0, s.p1]) (hs4 : s.op = 4 → FitL [c, s.p0, s.p1, s.p2]) (w : World) : Calls Try.prog 22 #[ptV c, stV s] w (GivesPts (pointsM c s) w) := by
  obtain ⟨W, hW, ⟨c0, c1⟩, ⟨d0, d1, d2, d3, d4, d5, d6⟩, B0⟩ := pt_boxes w c s
  have HB := Lib.hid B0
  obtain ⟨op, p, q, r⟩ := s
  dsimp only at *
  have hcase : (op = 1 ∨ op = 2) ∨ op = 3 ∨ op = 4 ∨ (op ≠ 1 ∧ op ≠ 2 ∧ op ≠ 3 ∧ op ≠ 4) := by omega
  rcases hcase with h12 | rfl | rfl | ⟨h1, h2, h3, h4⟩
  · have hp : pointsM c ⟨op, p, q, r⟩ = [p] := if_pos h12
    rw [hp]
    obtain ⟨V, hV, kV, bV⟩ := endP W 42 (.int .i64 p.x) (.int .i64 p.y)
    have HV := Lib.hid (And.intro kV (B0.trans (bV.mono B0.size)))
    obtain ⟨cx, cy⟩ := c
    obtain ⟨px, py⟩ := p
    unfold ptV stV GivesPts
    dsimp only [List.length_cons, List.length_nil, Nat.zero_add] at *
    clear hp hs hs4 B0 kV bV
    rcases h12 with rfl | rfl
    all_goals
      go_enter Try.func22, Try.ntmps22
      go_wp2_with first
        | (rw [hW])
        | (rw [hV])
      try rw [hV]
      go_ret
      exact ⟨⟨_, _, rfl, fun h => by simp at h, HV.out.1.rd⟩, HV.out.2⟩
  · have hp : pointsM c ⟨3, p, q, r⟩ = curveP [c, p, q] := rfl
    rw [hp]
    have hf := hs rfl
    have cC := ref11_Curve [c, p, q] (some ⟨W.heap.size, 0, none⟩) 3 (by simp) (by simp) (W.alloc (.cells (ptRow [c, p, q]).toArray 42)) (Box.new W 42 (ptRow [c, p, q])).rd
    have HV := Lib.hid (B0.alloc B0.size (.cells (ptRow [c, p, q]).toArray 42))
    have hne : (curveP [c, p, q]).length ≠ 0 := by rw [curveP_length]; have := piecesM_pos hf; omega
    unfold Curved at cC
    unfold GivesPts
    generalize curveP [c, p, q] = l at cC hne ⊢
    generalize curveE [c, p, q] = E at cC
    have HNE := Lib.hid (show ¬ l = [] from fun h => hne (by rw [h]; rfl))
    obtain ⟨cx, cy⟩ := c
    obtain ⟨px, py⟩ := p
    obtain ⟨qx, qy⟩ := q
    obtain ⟨nl, hnl⟩ : ∃ nl, l.length = nl := ⟨_, rfl⟩
    rw [hnl] at cC ⊢
    unfold ptV stV
    dsimp only [List.length_cons, List.length_nil, Nat.zero_add] at *
    have CC := Lib.hid cC
    clear hp hs hs4 B0 cC hne hf hnl
    go_enter Try.func22, Try.ntmps22
    go_wp2_with first
      | (rw [hW])
      | (go_at_call 32; (refine Calls.mono CC.out ?_); rintro e w1 ⟨⟨q1, k1, rfl, r1⟩, b1⟩)
    go_ret
    exact ⟨⟨q1, k1, rfl, fun h => absurd h HNE.out, r1⟩, HV.out.trans (b1.mono HV.out.size)⟩
  · have hp : pointsM c ⟨4, p, q, r⟩ = curveP [c, p, q, r] := rfl
    rw [hp]
    have hf := hs4 rfl
    have cC := ref11_Curve [c, p, q, r] (some ⟨W.heap.size, 0, none⟩) 4 (by simp) (by simp) (W.alloc (.cells (ptRow [c, p, q, r]).toArray 42)) (Box.new W 42 (ptRow [c, p, q, r])).rd
    have HV := Lib.hid (B0.alloc B0.size (.cells (ptRow [c, p, q, r]).toArray 42))
    have hne : (curveP [c, p, q, r]).length ≠ 0 := by rw [curveP_length]; have := piecesM_pos hf; omega
    unfold Curved at cC
    unfold GivesPts
    generalize curveP [c, p, q, r] = l at cC hne ⊢
    generalize curveE [c, p, q, r] = E at cC
    have HNE := Lib.hid (show ¬ l = [] from fun h => hne (by rw [h]; rfl))
    obtain ⟨cx, cy⟩ := c
    obtain ⟨px, py⟩ := p
    obtain ⟨qx, qy⟩ := q
    obtain ⟨rx, ry⟩ := r
    obtain ⟨nl, hnl⟩ : ∃ nl, l.length = nl := ⟨_, rfl⟩
    rw [hnl] at cC ⊢
    unfold ptV stV
    dsimp only [List.length_cons, List.length_nil, Nat.zero_add] at *
    have CC := Lib.hid cC
    clear hp hs hs4 B0 cC hne hf hnl
    go_enter Try.func22, Try.ntmps22
    go_wp2_with first
      | (rw [hW])
      | (go_at_call 32; (refine Calls.mono CC.out ?_); rintro e w1 ⟨⟨q1, k1, rfl, r1⟩, b1⟩)
    go_ret
    exact ⟨⟨q1, k1, rfl, fun h => absurd h HNE.out, r1⟩, HV.out.trans (b1.mono HV.out.size)⟩
  · have hp : pointsM c ⟨op, p, q, r⟩ = [] := by unfold pointsM; dsimp only; rw [if_neg (by omega), if_neg h3, if_neg h4]
    rw [hp]
    have g1 : (op == 1) = false := by simpa using h1
    have g2 : (op == 2) = false := by simpa using h2
    have g3 : (op == 3) = false := by simpa using h3
    have g4 : (op == 4) = false := by simpa using h4
    obtain ⟨cx, cy⟩ := c
    unfold ptV stV GivesPts
    dsimp only [List.length_nil] at *
    clear hp hs hs4 B0
    go_enter Try.func22, Try.ntmps22
    go_wp2_with (rw [hW])
    try rw [hW]
    go_ret
    exact ⟨⟨none, 0, rfl, fun _ => ⟨rfl, rfl⟩, RdV.nil _ _ _⟩, HB.out⟩
end Go.Proofs.Ytbgjpmijegeeiaa
/- Paths, the document's own: line. -/

namespace Go.Proofs.Ytbgjpmijegeeiaa
open Go.RowKit

theorem onceTo_new {l : List Pt} {i : Nat} (h : i = 0 ∨ l.getD i pt0 ≠ l.getD (i - 1) pt0) : onceTo l (i + 1) = onceTo l i ++ [l.getD i pt0] := if_pos h
theorem onceTo_old {l : List Pt} {i : Nat} (h : ¬ (i = 0 ∨ l.getD i pt0 ≠ l.getD (i - 1) pt0)) : onceTo l (i + 1) = onceTo l i := if_neg h

theorem own_take {w : World} {base k n cap : Nat} {e : TypeId} {A : Option Addr} {xs : List Value} (h : w.ownsRow base e k (.slice A n cap) n xs) {m : Nat} (hm : m ≤ n) (h0 : 0 < n) : w.ownsRow base e k (.slice A m cap) m (xs.take (m * k)) := by
  have hmk := Nat.mul_le_mul_right k hm
  refine ⟨by rw [List.length_take, h.1]; omega, ?_⟩
  rcases h.2 with ⟨-, h1⟩ | ⟨g, cap', cur, e1, hbg, hg, hnc, hcm, hcs, htk⟩
  · omega
  · cases e1
    exact .inr ⟨g, cap, cur, rfl, hbg, hg, by omega, hcm, hcs, by rw [← htk, List.take_take, Nat.min_eq_left hmk]⟩
theorem own_store2 {w U : World} {base k n g : Nat} {e : TypeId} {v x y : Value} {xs : List Value} (h : w.ownsRow base e k v n xs) (hU : (w.setCell ⟨g, 0, none⟩ x).setCell ⟨g, 1, none⟩ y = U) (hg : g < base) : U.ownsRow base e k v n xs := by
  refine ⟨h.1, ?_⟩
  rcases h.2 with hn | ⟨b, cap, cur, rfl, hb, hg2, rest⟩
  · exact .inl hn
  · refine .inr ⟨b, cap, cur, rfl, hb, ?_, rest⟩
    rw [← hU]
    exact (Below.heap_setCell _ _ y b (by show b ≠ g; omega)).trans ((Below.heap_setCell _ _ x b (by show b ≠ g; omega)).trans hg2)
theorem own_drewN {w : World} {base k n : Nat} {e : TypeId} {v : Value} {xs : List Value} (h : w.ownsRow base e k v n xs) (j : Nat) : (w.drewN j).ownsRow base e k v n xs := h
theorem ptRow_take (l : List Pt) (m : Nat) : (ptRow l).take (m * 2) = ptRow (l.take m) := by
  induction l generalizing m with
  | nil => simp [ptRow]
  | cons p l ih =>
    cases m with
    | zero => simp [ptRow]
    | succ m =>
      have e : ptRow (p :: l) = .int .i64 p.x :: .int .i64 p.y :: ptRow l := rfl
      rw [e, show (m + 1) * 2 = m * 2 + 1 + 1 by omega, List.take_succ_cons, List.take_succ_cons, ih m]
      rfl

set_option maxRecDepth 10000 in
set_option maxHeartbeats 6400000 in
theorem ref12_line (L : List Pt) (A : Option Addr) (c : Nat) (closed : Bool) (w : World) (hL : RdV w w.heap.size A (ptRow L)) (hl : L.length ≤ 8796093022208) :
    Calls Try.prog 21 #[.slice A L.length c, .bool closed] w fun e w' => (∃ v, e = .returned (.tuple #[.agg #[v, .bool closed], .bool (decide (1 < (lineM L closed).length))]) ∧ w'.ownsRow w.heap.size 42 2 v (lineM L closed).length (ptRow (lineM L closed))) ∧ Below w.heap.size w w' := by
  obtain ⟨W, hW, kW, B0, hWs⟩ : ∃ W, w.alloc (.cells #[.slice none 0 0, .bool false] 57) = W ∧ Box W w.heap.size 57 [.slice none 0 0, .bool false] ∧ Below w.heap.size w W ∧ W.heap.size = w.heap.size + 1 := ⟨_, rfl, Box.new w _ [.slice none 0 0, .bool false], (Below.refl _ _).alloc (Nat.le_refl _) _, by simp⟩
  obtain ⟨n, hn⟩ : ∃ n, L.length = n := ⟨_, rfl⟩
  have HN := Lib.hid hn
  have HL := Lib.hid ((hL.below B0).mono B0.size)
  obtain ⟨i0, hi0, hz0, hz1, hz2⟩ := info_parts info_pt
  rw [hn] at hl ⊢
  have HK := Lib.hid (And.intro kW B0)
  obtain ⟨R, hR⟩ : ∃ R, lineM L closed = R := ⟨_, rfl⟩
  have HRR := Lib.hid hR
  rw [hR]
  clear hn hL kW B0 hR
  go_enter Try.func21, Try.ntmps21
  go_wp2_with (rw [hW])
  try rw [hW]
  clear hW
  go_loopg [6, 7] n (fun gh ov it wr => ∃ i : Nat, it = .int .i64 (i : Int) ∧ gh + i = n ∧ wr.ownsRow W.heap.size 42 2 ov (onceTo L i).length (ptRow (onceTo L i)) ∧ Below W.heap.size W wr)
  case atStart => exact ⟨0, rfl, by omega, World.ownsRow_nil _ _ _ _, Below.refl _ _⟩
  case round =>
    obtain ⟨i, rfl, hg, hown, hB⟩ := hrel
    have HG := Lib.hid hg
    by_cases hlt : i < n
    · have hlt' : i < L.length := by rw [HN.out]; exact hlt
      obtain ⟨g, o, rfl, hgl, e0, e1⟩ := (HL.out.below hB).pt (i := i) hlt'
      have hil : (i : Int) < (n : Int) := by omega
      have hle := onceTo_le L i
      have HO := Lib.hid (And.intro hown hB)
      have hgw : g < wr.heap.size := Nat.lt_of_lt_of_le hgl hB.size
      rw [← getD_get hlt'] at e0 e1
      obtain ⟨p, hp⟩ : ∃ p, L.getD i pt0 = p := ⟨_, rfl⟩
      rw [hp] at e0 e1
      have HP := Lib.hid hp
      by_cases hz : i = 0
      · have HNW := Lib.hid (onceTo_new (l := L) (i := i) (.inl hz))
        have hzb : ((i : Int) == 0) = true := by simp; omega
        obtain ⟨x, y⟩ := p
        dsimp only at e0 e1
        clear hown hB hp hlt' hz
        go_wp2_with fail
        go_quiet (fail)
        have hOQ := own_below HO.out.1 (below_figE (Below.refl wr.heap.size wr) nq)
        have hBQ := below_figE HO.out.2 nq
        have HOQ := Lib.hid (And.intro hOQ hBQ)
        have f0 : (wr.drewN nq).cell? ⟨g, o + i * 2, none⟩ = some (.int .i64 x) := e0
        have f1 : (wr.drewN nq).cell? ⟨g, o + i * 2 + 1, none⟩ = some (.int .i64 y) := e1
        clear hOQ hBQ
        go_wp2_with (at_builtin; refine wpList_append_own _ rfl _ _ 47 rfl W.heap.size 42 i0 (.agg #[.int .i64 0, .int .i64 0]) 2 16 Try.underlying47 hi0 hz0 hz1 hz2 rfl (by decide) _ (onceTo L i).length _ rfl (HOQ.out.1.alloc _) ⟨(wr.drewN nq).heap.size, 0, none⟩ 1 1 [.int .i64 x, .int .i64 y] rfl rfl (two_new _ _ _ _) (by simp [Value.oneCell']) (by simp [maxLen]; omega) (by omega) (by have h1 := HO.out.2.size; simp; omega) ?_; intro v' w3 hown' hgrow _; replace hown' := Lib.hid hown'; replace hgrow := Lib.hid hgrow)
        have hBs := below_grow2 (HOQ.out.2.alloc HOQ.out.2.size (.cells #[.int .i64 x, .int .i64 y] 42)) (HOQ.out.1.alloc _) (by have h1 := HO.out.2.size; simp; omega) hgrow.out
        have hstep : w3.ownsRow W.heap.size 42 2 v' (onceTo L (i + 1)).length (ptRow (onceTo L (i + 1))) := by
          rw [HNW.out, HP.out, ptRow_append, List.length_append]
          exact hown'.out
        go_roundg (n - (i + 1))
        case measure => have := HG.out; omega
        case rel => exact ⟨i + 1, by simp, by omega, hstep, hBs⟩
      · have hl1 : i - 1 < L.length := by omega
        obtain ⟨g', o', e', -, d0, d1⟩ := (HL.out.below hB).pt (i := i - 1) hl1
        cases e'
        rw [← getD_get hl1] at d0 d1
        obtain ⟨p', hp'⟩ : ∃ p', L.getD (i - 1) pt0 = p' := ⟨_, rfl⟩
        rw [hp'] at d0 d1
        have hzb : ((i : Int) == 0) = false := by simp; omega
        have hm1 : IntKind.i64.wrap ((i : Int) - 1) = (i : Int) - 1 := IntWalk.i64_in _ (by omega)
        have i1 : 0 ≤ (i : Int) - 1 ∧ (i : Int) - 1 < (n : Int) := by omega
        have t1 : ((i : Int) - 1).toNat = i - 1 := by omega
        by_cases hpp : p = p'
        · have HNW := Lib.hid (onceTo_old (l := L) (i := i) (by rintro (h | h); exact hz h; exact h (by rw [hp, hp', hpp])))
          subst hpp
          obtain ⟨x, y⟩ := p
          dsimp only at e0 e1 d0 d1
          clear hown hB hp hp' hlt' hl1 hz
          go_wp2_with fail
          go_quiet (fail)
          have hOQ := own_below HO.out.1 (below_figE (Below.refl wr.heap.size wr) nq)
          have hBQ := below_figE HO.out.2 nq
          rw [← HNW.out] at hOQ
          have HOQ := Lib.hid (And.intro hOQ hBQ)
          clear hOQ hBQ
          go_wp2_with fail
          go_roundg (n - (i + 1))
          case measure => have := HG.out; omega
          case rel => exact ⟨i + 1, by simp, by omega, HOQ.out.1, HOQ.out.2⟩
        · have HNW := Lib.hid (onceTo_new (l := L) (i := i) (.inr (by rw [hp, hp']; exact hpp)))
          obtain ⟨x, y⟩ := p
          obtain ⟨x', y'⟩ := p'
          dsimp only at e0 e1 d0 d1
          by_cases hx : x = x'
          · subst hx
            have hy : ¬ y = y' := fun h => hpp (by rw [h])
            have hyb : (y == y') = false := by simpa using hy
            clear hown hB hp hp' hlt' hl1 hz hpp
            go_wp2_with fail
            go_quiet (fail)
            have hOQ := own_below HO.out.1 (below_figE (Below.refl wr.heap.size wr) nq)
            have hBQ := below_figE HO.out.2 nq
            have HOQ := Lib.hid (And.intro hOQ hBQ)
            have f0 : (wr.drewN nq).cell? ⟨g, o + i * 2, none⟩ = some (.int .i64 x) := e0
            have f1 : (wr.drewN nq).cell? ⟨g, o + i * 2 + 1, none⟩ = some (.int .i64 y) := e1
            clear hOQ hBQ
            go_wp2_with (at_builtin; refine wpList_append_own _ rfl _ _ 47 rfl W.heap.size 42 i0 (.agg #[.int .i64 0, .int .i64 0]) 2 16 Try.underlying47 hi0 hz0 hz1 hz2 rfl (by decide) _ (onceTo L i).length _ rfl (HOQ.out.1.alloc _) ⟨(wr.drewN nq).heap.size, 0, none⟩ 1 1 [.int .i64 x, .int .i64 y] rfl rfl (two_new _ _ _ _) (by simp [Value.oneCell']) (by simp [maxLen]; omega) (by omega) (by have h1 := HO.out.2.size; simp; omega) ?_; intro v' w3 hown' hgrow _; replace hown' := Lib.hid hown'; replace hgrow := Lib.hid hgrow)
            have hBs := below_grow2 (HOQ.out.2.alloc HOQ.out.2.size (.cells #[.int .i64 x, .int .i64 y] 42)) (HOQ.out.1.alloc _) (by have h1 := HO.out.2.size; simp; omega) hgrow.out
            have hstep : w3.ownsRow W.heap.size 42 2 v' (onceTo L (i + 1)).length (ptRow (onceTo L (i + 1))) := by
              rw [HNW.out, HP.out, ptRow_append, List.length_append]
              exact hown'.out
            go_roundg (n - (i + 1))
            case measure => have := HG.out; omega
            case rel => exact ⟨i + 1, by simp, by omega, hstep, hBs⟩
          · have hxb : (x == x') = false := by simpa using hx
            clear hown hB hp hp' hlt' hl1 hz hpp
            go_wp2_with fail
            go_quiet (fail)
            have hOQ := own_below HO.out.1 (below_figE (Below.refl wr.heap.size wr) nq)
            have hBQ := below_figE HO.out.2 nq
            have HOQ := Lib.hid (And.intro hOQ hBQ)
            have f0 : (wr.drewN nq).cell? ⟨g, o + i * 2, none⟩ = some (.int .i64 x) := e0
            have f1 : (wr.drewN nq).cell? ⟨g, o + i * 2 + 1, none⟩ = some (.int .i64 y) := e1
            clear hOQ hBQ
            go_wp2_with (at_builtin; refine wpList_append_own _ rfl _ _ 47 rfl W.heap.size 42 i0 (.agg #[.int .i64 0, .int .i64 0]) 2 16 Try.underlying47 hi0 hz0 hz1 hz2 rfl (by decide) _ (onceTo L i).length _ rfl (HOQ.out.1.alloc _) ⟨(wr.drewN nq).heap.size, 0, none⟩ 1 1 [.int .i64 x, .int .i64 y] rfl rfl (two_new _ _ _ _) (by simp [Value.oneCell']) (by simp [maxLen]; omega) (by omega) (by have h1 := HO.out.2.size; simp; omega) ?_; intro v' w3 hown' hgrow _; replace hown' := Lib.hid hown'; replace hgrow := Lib.hid hgrow)
            have hBs := below_grow2 (HOQ.out.2.alloc HOQ.out.2.size (.cells #[.int .i64 x, .int .i64 y] 42)) (HOQ.out.1.alloc _) (by have h1 := HO.out.2.size; simp; omega) hgrow.out
            have hstep : w3.ownsRow W.heap.size 42 2 v' (onceTo L (i + 1)).length (ptRow (onceTo L (i + 1))) := by
              rw [HNW.out, HP.out, ptRow_append, List.length_append]
              exact hown'.out
            go_roundg (n - (i + 1))
            case measure => have := HG.out; omega
            case rel => exact ⟨i + 1, by simp, by omega, hstep, hBs⟩
    · obtain rfl : i = n := by omega
      have hon : onceTo L i = onceM L := by unfold onceM; rw [HN.out]
      have hmle := onceTo_le L i
      rw [hon] at hown hmle
      obtain ⟨q, k, rfl, hk, -, hr⟩ := RdV.ofOwnK hown
      have kR := HK.out.1.below hB (by omega)
      have hBw := HK.out.2.trans (hB.mono HK.out.2.size)
      have hline := HRR.out
      unfold lineM lastP at hline
      generalize onceM L = O at hown hr hmle hline hk
      obtain ⟨m, hm⟩ : ∃ m, O.length = m := ⟨_, rfl⟩
      have HM := Lib.hid hm
      rw [hm] at hown hmle hline hk ⊢
      have HOW := Lib.hid hown
      have HBW := Lib.hid (And.intro kR hBw)
      obtain ⟨⟨z0, z1⟩, z2, z3⟩ := Box.pair kR
      have hpp : ∀ j, (hj : j < m) → ∃ b o, q = some ⟨b, o, none⟩ ∧ b < wr.heap.size ∧ wr.cell? ⟨b, o + j * 2, none⟩ = some (.int .i64 (O.getD j pt0).x) ∧ wr.cell? ⟨b, o + j * 2 + 1, none⟩ = some (.int .i64 (O.getD j pt0).y) := fun j hj => by
        rw [getD_get (by omega)]
        exact hr.pt (by omega)
      clear hown hr hon hm kR hBw hB
      by_cases hcl : closed = true ∧ 1 < m
      · obtain ⟨rfl, h1⟩ := hcl
        obtain ⟨b, o, rfl, hb0, d0, d1⟩ := hpp 0 (by omega)
        obtain ⟨b', o', e', -, f0, f1⟩ := hpp (m - 1) (by omega)
        cases e'
        simp only [Nat.zero_mul, Nat.add_zero] at d0 d1
        have m1 : (1 : Int) < (m : Int) := by omega
        have m2 : IntKind.i64.wrap ((m : Int) - 1) = (m : Int) - 1 := IntWalk.i64_in _ (by omega)
        have m3 : 0 ≤ (m : Int) - 1 ∧ (m : Int) - 1 < (m : Int) := by omega
        have m4 : ((m : Int) - 1).toNat = m - 1 := by omega
        have m5 : 0 < m := by omega
        have m6 : (m : Int) - 1 ≤ (k : Int) := by omega
        generalize O.getD 0 pt0 = p at d0 d1 hline
        generalize O.getD (m - 1) pt0 = p' at f0 f1 hline
        by_cases hpq : p = p'
        · rw [if_pos ⟨rfl, h1, hpq⟩] at hline
          subst hpq
          obtain ⟨x, y⟩ := p
          dsimp only at d0 d1 f0 f1
          obtain ⟨j, hj⟩ : ∃ j, m - 1 = j := ⟨_, rfl⟩
          rw [hj] at hline
          subst hline
          have HTK := Lib.hid (show (O.take j).length = j ∧ wr.ownsRow W.heap.size 42 2 (.slice (some ⟨b, o, none⟩) j k) j (ptRow (O.take j)) from ⟨by rw [List.length_take, HM.out]; omega, by
            have h := own_take HOW.out (m := j) (by omega) (by omega)
            rwa [ptRow_take] at h⟩)
          rw [hj] at m4 f0 f1
          have m8 : (j : Int) ≤ (k : Int) := by omega
          clear hpp
          by_cases h2 : 1 < j
          · have HBB := Lib.hid (show decide (1 < (O.take j).length) = true by rw [HTK.out.1]; simpa using h2)
            have m9 : (1 : Int) < (j : Int) := by omega
            go_wp2_with fail
            go_quiet (fail)
            obtain ⟨U, hU, kU, ⟨u0, u1⟩, bU⟩ := (HBW.out.1.drewN nq).stored2 (.slice (some ⟨b, o, none⟩) j k) (.bool true)
            have HE := Lib.hid (show U.ownsRow w.heap.size 42 2 (.slice (some ⟨b, o, none⟩) j k) (O.take j).length (ptRow (O.take j)) ∧ Below w.heap.size w U from ⟨by rw [HTK.out.1]; exact own_mono (own_store2 (own_drewN HTK.out.2 nq) hU (by omega)) (show w.heap.size ≤ W.heap.size by omega), (below_figE HBW.out.2 nq).trans (bU w.heap.size (Nat.le_refl _))⟩)
            clear kU bU
            go_wp2_with fail
            try rw [hU]
            exact bodyPost_ret (v := .tuple #[.agg #[.slice (some ⟨b, o, none⟩) j k, .bool true], .bool true]) (by simp [results, Try.results21, go_sem, u0, u1]) rfl ⟨⟨_, by rw [HBB.out], HE.out.1⟩, HE.out.2⟩
          · have HBB := Lib.hid (show decide (1 < (O.take j).length) = false by rw [HTK.out.1]; simpa using h2)
            have m9 : ¬ (1 : Int) < (j : Int) := by omega
            have m10 : (j : Int) ≤ 1 := by omega
            go_wp2_with fail
            go_quiet (fail)
            obtain ⟨U, hU, kU, ⟨u0, u1⟩, bU⟩ := (HBW.out.1.drewN nq).stored2 (.slice (some ⟨b, o, none⟩) j k) (.bool true)
            have HE := Lib.hid (show U.ownsRow w.heap.size 42 2 (.slice (some ⟨b, o, none⟩) j k) (O.take j).length (ptRow (O.take j)) ∧ Below w.heap.size w U from ⟨by rw [HTK.out.1]; exact own_mono (own_store2 (own_drewN HTK.out.2 nq) hU (by omega)) (show w.heap.size ≤ W.heap.size by omega), (below_figE HBW.out.2 nq).trans (bU w.heap.size (Nat.le_refl _))⟩)
            clear kU bU
            go_wp2_with fail
            try rw [hU]
            exact bodyPost_ret (v := .tuple #[.agg #[.slice (some ⟨b, o, none⟩) j k, .bool true], .bool false]) (by simp [results, Try.results21, go_sem, u0, u1, m10]) rfl ⟨⟨_, by rw [HBB.out], HE.out.1⟩, HE.out.2⟩
        · rw [if_neg (fun h => hpq h.2.2)] at hline
          subst hline
          obtain ⟨x, y⟩ := p
          obtain ⟨x', y'⟩ := p'
          dsimp only at d0 d1 f0 f1
          have HBB := Lib.hid (show decide (1 < O.length) = true by rw [HM.out]; simpa using h1)
          by_cases hx : x = x'
          · subst hx
            have hyb : (y == y') = false := by simpa using (fun h => hpq (by rw [h]) : ¬ y = y')
            clear hpp hpq
            go_wp2_with fail
            go_quiet (fail)
            obtain ⟨U, hU, kU, ⟨u0, u1⟩, bU⟩ := (HBW.out.1.drewN nq).stored2 (.slice (some ⟨b, o, none⟩) m k) (.bool true)
            have HE := Lib.hid (show U.ownsRow w.heap.size 42 2 (.slice (some ⟨b, o, none⟩) m k) O.length (ptRow O) ∧ Below w.heap.size w U from ⟨by rw [HM.out]; exact own_mono (own_store2 (own_drewN HOW.out nq) hU (by omega)) (show w.heap.size ≤ W.heap.size by omega), (below_figE HBW.out.2 nq).trans (bU w.heap.size (Nat.le_refl _))⟩)
            clear kU bU
            go_wp2_with fail
            try rw [hU]
            exact bodyPost_ret (v := .tuple #[.agg #[.slice (some ⟨b, o, none⟩) m k, .bool true], .bool true]) (by simp [results, Try.results21, go_sem, u0, u1]) rfl ⟨⟨_, by rw [HBB.out], HE.out.1⟩, HE.out.2⟩
          · have hxb : (x == x') = false := by simpa using hx
            clear hpp hpq
            go_wp2_with fail
            go_quiet (fail)
            obtain ⟨U, hU, kU, ⟨u0, u1⟩, bU⟩ := (HBW.out.1.drewN nq).stored2 (.slice (some ⟨b, o, none⟩) m k) (.bool true)
            have HE := Lib.hid (show U.ownsRow w.heap.size 42 2 (.slice (some ⟨b, o, none⟩) m k) O.length (ptRow O) ∧ Below w.heap.size w U from ⟨by rw [HM.out]; exact own_mono (own_store2 (own_drewN HOW.out nq) hU (by omega)) (show w.heap.size ≤ W.heap.size by omega), (below_figE HBW.out.2 nq).trans (bU w.heap.size (Nat.le_refl _))⟩)
            clear kU bU
            go_wp2_with fail
            try rw [hU]
            exact bodyPost_ret (v := .tuple #[.agg #[.slice (some ⟨b, o, none⟩) m k, .bool true], .bool true]) (by simp [results, Try.results21, go_sem, u0, u1]) rfl ⟨⟨_, by rw [HBB.out], HE.out.1⟩, HE.out.2⟩
      · rw [if_neg (fun h => hcl ⟨h.1, h.2.1⟩)] at hline
        subst hline
        by_cases h1 : 1 < m
        · have hc0 : closed = false := by
            cases closed with
            | false => rfl
            | true => exact absurd ⟨rfl, h1⟩ hcl
          subst hc0
          have m1 : (1 : Int) < (m : Int) := by omega
          have HBB := Lib.hid (show decide (1 < O.length) = true by rw [HM.out]; simpa using h1)
          clear hpp hcl
          go_wp2_with fail
          go_quiet (fail)
          obtain ⟨U, hU, kU, ⟨u0, u1⟩, bU⟩ := (HBW.out.1.drewN nq).stored2 (.slice q m k) (.bool false)
          have HE := Lib.hid (show U.ownsRow w.heap.size 42 2 (.slice q m k) O.length (ptRow O) ∧ Below w.heap.size w U from ⟨by rw [HM.out]; exact own_mono (own_store2 (own_drewN HOW.out nq) hU (by omega)) (show w.heap.size ≤ W.heap.size by omega), (below_figE HBW.out.2 nq).trans (bU w.heap.size (Nat.le_refl _))⟩)
          clear kU bU
          go_wp2_with fail
          try rw [hU]
          exact bodyPost_ret (v := .tuple #[.agg #[.slice q m k, .bool false], .bool true]) (by simp [results, Try.results21, go_sem, u0, u1]) rfl ⟨⟨_, by rw [HBB.out], HE.out.1⟩, HE.out.2⟩
        · have m1 : ¬ (1 : Int) < (m : Int) := by omega
          have m7 : decide ((1 : Int) < (m : Int)) = false := decide_eq_false m1
          have HBB := Lib.hid (show decide (1 < O.length) = false by rw [HM.out]; simpa using h1)
          clear hpp hcl
          cases closed with
          | false =>
            go_wp2_with fail
            go_quiet (fail)
            obtain ⟨U, hU, kU, ⟨u0, u1⟩, bU⟩ := (HBW.out.1.drewN nq).stored2 (.slice q m k) (.bool false)
            have HE := Lib.hid (show U.ownsRow w.heap.size 42 2 (.slice q m k) O.length (ptRow O) ∧ Below w.heap.size w U from ⟨by rw [HM.out]; exact own_mono (own_store2 (own_drewN HOW.out nq) hU (by omega)) (show w.heap.size ≤ W.heap.size by omega), (below_figE HBW.out.2 nq).trans (bU w.heap.size (Nat.le_refl _))⟩)
            clear kU bU
            go_wp2_with fail
            try rw [hU]
            exact bodyPost_ret (v := .tuple #[.agg #[.slice q m k, .bool false], .bool false]) (by simp [results, Try.results21, go_sem, u0, u1]) rfl ⟨⟨_, by rw [HBB.out], HE.out.1⟩, HE.out.2⟩
          | true =>
            go_wp2_with fail
            go_quiet (fail)
            obtain ⟨U, hU, kU, ⟨u0, u1⟩, bU⟩ := (HBW.out.1.drewN nq).stored2 (.slice q m k) (.bool true)
            have HE := Lib.hid (show U.ownsRow w.heap.size 42 2 (.slice q m k) O.length (ptRow O) ∧ Below w.heap.size w U from ⟨by rw [HM.out]; exact own_mono (own_store2 (own_drewN HOW.out nq) hU (by omega)) (show w.heap.size ≤ W.heap.size by omega), (below_figE HBW.out.2 nq).trans (bU w.heap.size (Nat.le_refl _))⟩)
            clear kU bU
            go_wp2_with fail
            try rw [hU]
            exact bodyPost_ret (v := .tuple #[.agg #[.slice q m k, .bool true], .bool false]) (by simp [results, Try.results21, go_sem, u0, u1]) rfl ⟨⟨_, by rw [HBB.out], HE.out.1⟩, HE.out.2⟩
end Go.Proofs.Ytbgjpmijegeeiaa
