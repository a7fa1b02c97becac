/- Letters as paths, as mathematics: which glyph is found, what is wrong first, where steps come to. No program is named here. -/
import Derived.Test.YtdkgnechiloimaaZPtX
import Derived.Test.YtdkgnechiloimaaZPvX
import Derived.Test.YtdkgnechiloimaaZBgB
import Derived.Test.YtdkgnechiloimaaZPvW
namespace Go.Proofs.Ytdkgnechiloimaa

structure Gl where
  code : Int
  adv : Int
  steps : List St
def gl0 : Gl := ⟨0, 0, []⟩
def MayG (g : Gl) : Prop := (33 ≤ g.code ∧ g.code ≤ 126) ∧ (0 ≤ g.adv ∧ g.adv ≤ 8388607) ∧ checkM g.steps = 0
instance (g : Gl) : Decidable (MayG g) := by unfold MayG; exact inferInstance
def findM (font : List Gl) (c : Int) : Option Gl := font.find? (fun g => g.code == c)
def letterM (font : List Gl) (c : Int) : Gl × Int :=
  match findM font c with
  | none => (gl0, 8)
  | some g => if MayG g then (g, 0) else (gl0, 2)
def lettersM (font : List Gl) : List UInt8 → List (Gl × Int)
  | [] => []
  | c :: r => if (letterM font (c.toNat : Int)).2 = 0 then letterM font (c.toNat : Int) :: lettersM font r else [letterM font (c.toNat : Int)]
theorem letterM_may {font : List Gl} {c : Int} (h : (letterM font c).2 = 0) : MayG (letterM font c).1 := by
  unfold letterM at *
  split at h
  · simp at h
  · split at h
    · rename_i hm; rw [if_pos hm]; exact hm
    · simp at h
theorem letterM_err {font : List Gl} {c : Int} (h : (letterM font c).2 ≠ 0) : (letterM font c).1 = gl0 := by
  unfold letterM at *
  split at h
  · rfl
  · split at h
    · exact absurd rfl h
    · rename_i hm; rw [if_neg hm]
theorem letterM_in (font : List Gl) (c : Int) : 0 ≤ (letterM font c).2 ∧ (letterM font c).2 ≤ 8 := by
  unfold letterM
  split
  · simp
  · split <;> simp
theorem lettersM_step (font : List Gl) (a : List UInt8) (c : UInt8) (r : List UInt8) (h : ∀ u ∈ a, (letterM font (u.toNat : Int)).2 = 0) :
    lettersM font (a ++ c :: r) = a.map (fun u => letterM font (u.toNat : Int)) ++ (if (letterM font (c.toNat : Int)).2 = 0 then letterM font (c.toNat : Int) :: lettersM font r else [letterM font (c.toNat : Int)]) := by
  induction a with
  | nil => rfl
  | cons u a ih =>
    have h1 := h u (by simp)
    have h2 := ih (fun v hv => h v (by simp [hv]))
    simp only [List.cons_append, List.map_cons, lettersM, if_pos h1, h2]
theorem lettersM_all (font : List Gl) (a : List UInt8) (h : ∀ u ∈ a, (letterM font (u.toNat : Int)).2 = 0) : lettersM font a = a.map (fun u => letterM font (u.toNat : Int)) := by
  induction a with
  | nil => rfl
  | cons u a ih =>
    have h1 := h u (by simp)
    simp only [List.map_cons, lettersM, if_pos h1, ih (fun v hv => h v (by simp [hv]))]

/-- a step's points may be -/
theorem checkGo_each : ∀ (l : List St) (prev : Option Int), checkGo prev l = 0 → ∀ s ∈ l, (0 ≤ usesM s.op) ∧ FitTo s (usesM s.op).toNat
  | [], _, _, s, hs => by cases hs
  | t :: r, prev, h, s, hs => by
    by_cases hb : badM prev t = 0
    · simp only [checkGo, if_pos hb] at h
      rcases List.mem_cons.1 hs with rfl | hs
      · unfold badM at hb
        split at hb
        · simp at hb
        · split at hb
          · simp at hb
          · split at hb
            · rename_i h1 _ h2
              exact ⟨by omega, h2⟩
            · simp at hb
      · exact checkGo_each r _ h s hs
    · simp only [checkGo, if_neg hb] at h
      exact absurd h hb
theorem mayG_steps {g : Gl} (h : MayG g) : g.steps.length ≤ 200 ∧ ∀ s ∈ g.steps, (0 ≤ usesM s.op) ∧ FitTo s (usesM s.op).toNat := by
  have h1 := h.2.2
  unfold checkM at h1
  split at h1
  · simp at h1
  · exact ⟨by omega, checkGo_each _ _ h1⟩

def scaleM (n size : Int) : Int := (n * size + 512) / 1024
theorem scaleM_in {n size : Int} (hn : -16777216 ≤ n) (hn2 : n ≤ 16777216) (h1 : 1 ≤ size) (h2 : size ≤ 65536) : (-1099511627776 ≤ n * size ∧ n * size ≤ 1099511627776) ∧ -1073741824 ≤ scaleM n size ∧ scaleM n size ≤ 1073741824 := by
  have ha : n * size ≤ 16777216 * size := Int.mul_le_mul_of_nonneg_right hn2 (by omega)
  have hb : -16777216 * size ≤ n * size := Int.mul_le_mul_of_nonneg_right hn (by omega)
  unfold scaleM
  omega
structure Pn where
  size : Int
  at_ : Pt
def placeP (q : Pn) (x : Int) (p : Pt) : Pt := ⟨q.at_.x + scaleM (x + p.x) q.size, q.at_.y + scaleM p.y q.size⟩
def OkP (q : Pn) (x : Int) (p : Pt) : Prop := x + p.x ≤ 8388607 ∧ FitP (placeP q x p)
instance (q : Pn) (x : Int) (p : Pt) : Decidable (OkP q x p) := by unfold OkP; exact inferInstance
def StepOk (q : Pn) (x : Int) (s : St) : Prop := ∀ k, k < (usesM s.op).toNat → OkP q x (s.pt k)
instance (q : Pn) (x : Int) (s : St) : Decidable (StepOk q x s) := by unfold StepOk; exact inferInstance
/-- where a step comes to, as far as its first k points -/
def toK (q : Pn) (x : Int) (s : St) (k : Nat) : St := ⟨s.op, if 0 < k then placeP q x s.p0 else pt0, if 1 < k then placeP q x s.p1 else pt0, if 2 < k then placeP q x s.p2 else pt0⟩
def toM (q : Pn) (x : Int) (s : St) : St := toK q x s (usesM s.op).toNat
def AllOk (q : Pn) (x : Int) (l : List St) : Prop := ∀ s ∈ l, StepOk q x s
instance (q : Pn) (x : Int) (l : List St) : Decidable (AllOk q x l) := by unfold AllOk; exact inferInstance
/-- what is wrong with a letter, where the pen is at x and so many steps are there -/
def errS (q : Pn) (x : Int) (n : Nat) (ge : Gl × Int) : Int :=
  if ge.2 ≠ 0 then ge.2 else if 200 < n + ge.1.steps.length then 7 else if AllOk q x ge.1.steps then (if 8388607 < x + ge.1.adv then 4 else 0) else 4
def runS (q : Pn) : Int → List St → List (Gl × Int) → (Int × List St) × Int
  | x, out, [] => ((x, out), 0)
  | x, out, ge :: r => if errS q x out.length ge = 0 then runS q (x + ge.1.adv) (out ++ ge.1.steps.map (toM q x)) r else ((x, out), errS q x out.length ge)
theorem runS_append (q : Pn) : ∀ (a b : List (Gl × Int)) (x : Int) (out : List St), runS q x out (a ++ b) = if (runS q x out a).2 = 0 then runS q (runS q x out a).1.1 (runS q x out a).1.2 b else runS q x out a
  | [], b, x, out => by simp [runS]
  | ge :: a, b, x, out => by
    by_cases h : errS q x out.length ge = 0
    · simp only [List.cons_append, runS, if_pos h]
      exact runS_append q a b _ _
    · simp only [List.cons_append, runS, if_neg h]
theorem runS_snoc {q : Pn} {a : List (Gl × Int)} {x0 : Int} {out0 : List St} {x : Int} {out : List St} (h : runS q x0 out0 a = ((x, out), 0)) (ge : Gl × Int) :
    runS q x0 out0 (a ++ [ge]) = if errS q x out.length ge = 0 then ((x + ge.1.adv, out ++ ge.1.steps.map (toM q x)), 0) else ((x, out), errS q x out.length ge) := by
  rw [runS_append, h, if_pos rfl]
  simp only [runS]
theorem runS_stop {q : Pn} {L a : List (Gl × Int)} {x : Int} {out : List St} (h : a <+: L) (h2 : (runS q x out a).2 ≠ 0) : runS q x out L = runS q x out a := by
  obtain ⟨r, rfl⟩ := h
  rw [runS_append, if_neg h2]
def setM (font : List Gl) (text : List UInt8) (size : Int) (p : Pt) : List St × Int :=
  if (1 ≤ size ∧ size ≤ 65536) ∧ FitP p then (if (runS ⟨size, p⟩ 0 [] (lettersM font text)).2 = 0 then ((runS ⟨size, p⟩ 0 [] (lettersM font text)).1.2, 0) else ([], (runS ⟨size, p⟩ 0 [] (lettersM font text)).2)) else ([], 2)
theorem setM_err {font : List Gl} {text : List UInt8} {size : Int} {p : Pt} (h : (setM font text size p).2 ≠ 0) : (setM font text size p).1 = [] := by
  unfold setM at *
  split
  · rename_i h1
    rw [if_pos h1] at h
    split
    · rename_i h2
      rw [if_pos h2] at h
      exact absurd rfl h
    · rfl
  · rfl
def sumS (l : List (Gl × Int)) : Nat := (l.map (fun ge => ge.1.steps.length)).sum
/-- what goes on, goes on behind what is there -/
theorem runS_ok {q : Pn} : ∀ (l : List (Gl × Int)) (x : Int) (out : List St), (runS q x out l).2 = 0 → ∃ t, (runS q x out l).1.2 = out ++ t ∧ t.length = sumS l
  | [], x, out, _ => ⟨[], by simp [runS], rfl⟩
  | ge :: r, x, out, h => by
    by_cases he : errS q x out.length ge = 0
    · simp only [runS, if_pos he] at h ⊢
      obtain ⟨t, h1, h2⟩ := runS_ok r _ _ h
      refine ⟨ge.1.steps.map (toM q x) ++ t, by rw [h1, List.append_assoc], ?_⟩
      rw [List.length_append, List.length_map, h2]
      simp [sumS]
    · simp only [runS, if_neg he] at h
      exact absurd h he
/-- a text of a letter and others -/
theorem setM_cons {font : List Gl} {c : UInt8} {s : List UInt8} {size : Int} {p : Pt} (h : (setM font (c :: s) size p).2 = 0) :
    (setM font [c] size p).2 = 0 ∧ (∃ t, (setM font (c :: s) size p).1 = (setM font [c] size p).1 ++ t ∧ t.length = sumS (lettersM font s)) := by
  unfold setM at h ⊢
  by_cases hs : (1 ≤ size ∧ size ≤ 65536) ∧ FitP p
  · rw [if_pos hs] at h ⊢
    rw [if_pos hs]
    by_cases hr : (runS ⟨size, p⟩ 0 [] (lettersM font (c :: s))).2 = 0
    · rw [if_pos hr]
      by_cases hl : (letterM font (c.toNat : Int)).2 = 0
      · simp only [lettersM, if_pos hl, runS] at hr ⊢
        by_cases he : errS ⟨size, p⟩ 0 ([] : List St).length (letterM font (c.toNat : Int)) = 0
        · simp only [if_pos he, if_true] at hr ⊢
          obtain ⟨t, h1, h2⟩ := runS_ok _ _ _ hr
          exact ⟨trivial, t, h1, h2⟩
        · simp only [if_neg he] at hr
          exact absurd hr he
      · exfalso
        simp only [lettersM, if_neg hl, runS] at hr
        have he : errS ⟨size, p⟩ 0 ([] : List St).length (letterM font (c.toNat : Int)) = (letterM font (c.toNat : Int)).2 := by
          unfold errS
          rw [if_pos hl]
        rw [he, if_neg hl] at hr
        exact hl hr
    · rw [if_neg hr] at h
      exact absurd h hr
  · rw [if_neg hs] at h
    simp at h
theorem setM_length {font : List Gl} {s : List UInt8} {size : Int} {p : Pt} (h : (setM font s size p).2 = 0) : (setM font s size p).1.length = sumS (lettersM font s) := by
  unfold setM at h ⊢
  by_cases hs : (1 ≤ size ∧ size ≤ 65536) ∧ FitP p
  · rw [if_pos hs] at h ⊢
    by_cases hr : (runS ⟨size, p⟩ 0 [] (lettersM font s)).2 = 0
    · rw [if_pos hr]
      obtain ⟨t, h1, h2⟩ := runS_ok _ _ _ hr
      rw [h1]
      simpa using h2
    · rw [if_neg hr] at h
      exact absurd h hr
  · rw [if_neg hs] at h
    simp at h
theorem setM_in (font : List Gl) (text : List UInt8) (size : Int) (p : Pt) : (setM font text size p).1.length ≤ 200 := by
  have key : ∀ (l : List (Gl × Int)) (q : Pn) (x : Int) (out : List St), out.length ≤ 200 → (runS q x out l).1.2.length ≤ 200 := by
    intro l
    induction l with
    | nil => intro q x out h; exact h
    | cons ge r ih =>
      intro q x out h
      simp only [runS]
      split
      · rename_i he
        refine ih _ _ _ ?_
        unfold errS at he
        rw [List.length_append, List.length_map]
        split at he
        · rename_i h1; exact absurd he h1
        · split at he
          · simp at he
          · omega
      · exact h
  unfold setM
  split
  · split
    · exact key _ _ _ _ (by simp)
    · simp
  · simp
/-- how wide a text is -/
def widthS : Int → List (Gl × Int) → Int × Int
  | x, [] => (x, 0)
  | x, ge :: r => if ge.2 ≠ 0 then (x, ge.2) else if 8388607 < x + ge.1.adv then (x, 4) else widthS (x + ge.1.adv) r
theorem widthS_append : ∀ (a b : List (Gl × Int)) (x : Int), widthS x (a ++ b) = if (widthS x a).2 = 0 then widthS (widthS x a).1 b else widthS x a
  | [], b, x => by simp [widthS]
  | ge :: a, b, x => by
    by_cases h : ge.2 ≠ 0
    · simp only [List.cons_append, widthS, if_pos h, if_neg h]
    · by_cases h2 : 8388607 < x + ge.1.adv
      · simp only [List.cons_append, widthS, if_neg h, if_pos h2]
        simp
      · simp only [List.cons_append, widthS, if_neg h, if_neg h2]
        exact widthS_append a b _
theorem widthS_stop {L a : List (Gl × Int)} {x : Int} (h : a <+: L) (h2 : (widthS x a).2 ≠ 0) : widthS x L = widthS x a := by
  obtain ⟨r, rfl⟩ := h
  rw [widthS_append, if_neg h2]
def widthM (font : List Gl) (text : List UInt8) (size : Int) : Int × Int :=
  if 1 ≤ size ∧ size ≤ 65536 then (if (widthS 0 (lettersM font text)).2 = 0 then (scaleM (widthS 0 (lettersM font text)).1 size, 0) else (0, (widthS 0 (lettersM font text)).2)) else (0, 2)
end Go.Proofs.Ytdkgnechiloimaa
/- Glyphs in memory: as they lie, in rows; a step's row that a call made. -/

namespace Go.Proofs.Ytdkgnechiloimaa
open Go.RowKit

theorem info_stp : (Try.prog.info? 49).map (fun i => (i.zero, i.size, i.bytes)) = some (some (.agg #[.int .i64 0, .int .i64 0, .int .i64 0, .int .i64 0, .int .i64 0, .int .i64 0, .int .i64 0]), 7, 56) := by kernel_rfl
/-- a glyph as it lies -/
structure Glv where
  code : Int
  adv : Int
  A : Option Addr
  c : Nat
  steps : List St
instance : Inhabited Glv := ⟨⟨0, 0, none, 0, []⟩⟩
def gv0 : Glv := ⟨0, 0, none, 0, []⟩
def Glv.gl (x : Glv) : Gl := ⟨x.code, x.adv, x.steps⟩
def gvV (x : Glv) : Value := .agg #[.int .i64 x.code, .int .i64 x.adv, .slice x.A x.steps.length x.c]
def gvCells (x : Glv) : List Value := [.int .i64 x.code, .int .i64 x.adv, .slice x.A x.steps.length x.c]
def gvRow (l : List Glv) : List Value := l.flatMap gvCells
theorem gvCells_length (x : Glv) : (gvCells x).length = 3 := rfl
/-- glyphs that are read -/
def RdGlv (w : World) (B : Nat) (p : Option Addr) (l : List Glv) : Prop := RdV w B p (gvRow l) ∧ ∀ x ∈ l, RdV w B x.A (stRow x.steps) ∧ x.steps.length * 56 ≤ 140737488351232
theorem RdGlv.below {w w' : World} {B : Nat} {p : Option Addr} {l : List Glv} (h : RdGlv w B p l) (hb : Below B w w') : RdGlv w' B p l := ⟨h.1.below hb, fun x hx => ⟨(h.2 x hx).1.below hb, (h.2 x hx).2⟩⟩
theorem RdGlv.mono {w : World} {B B' : Nat} {p : Option Addr} {l : List Glv} (h : RdGlv w B p l) (hb : B ≤ B') : RdGlv w B' p l := ⟨h.1.mono hb, fun x hx => ⟨(h.2 x hx).1.mono hb, (h.2 x hx).2⟩⟩
theorem RdGlv.on {w w' : World} {p : Option Addr} {l : List Glv} (h : RdGlv w w.heap.size p l) (hb : Below w.heap.size w w') : RdGlv w' w'.heap.size p l := (h.below hb).mono hb.size
theorem RdGlv.row {w : World} {B : Nat} {p : Option Addr} {l : List Glv} (h : RdGlv w B p l) {i : Nat} (hi : i < l.length) : ∃ b o, p = some ⟨b, o, none⟩ ∧ b < B ∧ w.cell? ⟨b, o + i * 3, none⟩ = some (.int .i64 l[i].code) ∧ w.cell? ⟨b, o + i * 3 + 1, none⟩ = some (.int .i64 l[i].adv) ∧ w.cell? ⟨b, o + i * 3 + 2, none⟩ = some (.slice l[i].A l[i].steps.length l[i].c) ∧ RdV w B l[i].A (stRow l[i].steps) := by
  obtain ⟨b, o, e, hb, hc⟩ := RdV.elem gvCells_length h.1 (by omega) hi
  exact ⟨b, o, e, hb, hc 0 _ rfl, hc 1 _ rfl, hc 2 _ rfl, (h.2 _ (List.getElem_mem hi)).1⟩
/-- the first one of a code -/
def seekV (l : List Glv) (c : Int) : Glv × Bool := match l.find? (fun x => x.code == c) with
  | none => (gv0, false)
  | some x => (x, true)
theorem seekV_at {l : List Glv} {c : Int} {i : Nat} (hi : i < l.length) (hno : ∀ x ∈ l.take i, x.code ≠ c) (h : l[i].code = c) : seekV l c = (l[i], true) := by
  unfold seekV
  have e : l = l.take i ++ l[i] :: l.drop (i + 1) := by rw [← List.drop_eq_getElem_cons hi, List.take_append_drop]
  have h1 : l.find? (fun x => x.code == c) = some l[i] := by
    conv => lhs; rw [e]
    rw [List.find?_append, List.find?_eq_none.2 (fun x hx => by simpa using hno x hx), Option.none_or, List.find?_cons_of_pos (by simpa using h)]
  rw [h1]
theorem seekV_none {l : List Glv} {c : Int} (hno : ∀ x ∈ l, x.code ≠ c) : seekV l c = (gv0, false) := by
  unfold seekV
  rw [List.find?_eq_none.2 (fun x hx => by simpa using hno x hx)]
theorem seekV_mem {l : List Glv} {c : Int} : (seekV l c).1 ∈ l ∨ (seekV l c) = (gv0, false) := by
  unfold seekV
  cases h : l.find? (fun x => x.code == c) with
  | none => exact .inr rfl
  | some x => exact .inl (List.mem_of_find?_eq_some h)
theorem findM_map (l : List Glv) (c : Int) : findM (l.map Glv.gl) c = (l.find? (fun x => x.code == c)).map Glv.gl := by
  unfold findM
  rw [List.find?_map]
  rfl
theorem letterM_seek (l : List Glv) (c : Int) : letterM (l.map Glv.gl) c = if (seekV l c).2 = true then (if MayG (seekV l c).1.gl then ((seekV l c).1.gl, 0) else (gl0, 2)) else (gl0, 8) := by
  unfold letterM seekV
  rw [findM_map]
  cases h : l.find? (fun x => x.code == c) with
  | none => rfl
  | some x => rfl
/-- a box of three -/
theorem newBox3 (v : World) (t : TypeId) (x y z : Value) : ∃ Z, v.alloc (.cells #[x, y, z] t) = Z ∧ Box Z v.heap.size t [x, y, z] ∧ Below v.heap.size v Z :=
  ⟨_, rfl, Box.new v t [x, y, z], (Below.refl _ v).alloc (Nat.le_refl _) _⟩
theorem Box.trip3 {w : World} {g : Nat} {t : TypeId} {a b c : Value} (h : Box w g t [a, b, c]) : (w.cell? ⟨g, 0, none⟩ = some a ∧ w.cell? ⟨g, 1, none⟩ = some b ∧ w.cell? ⟨g, 2, none⟩ = some c) ∧ w.frozen? ⟨g, 0, none⟩ = false ∧ w.frozen? ⟨g, 1, none⟩ = false ∧ w.frozen? ⟨g, 2, none⟩ = false :=
  ⟨⟨h.cell 0 rfl, h.cell 1 rfl, h.cell 2 rfl⟩, h.frozen 0, h.frozen 1, h.frozen 2⟩
theorem Box.put3g {w : World} {g : Nat} {t : TypeId} {a b c : Value} (h : Box w g t [a, b, c]) (x y z : Value) : ∃ U, ((w.setCell ⟨g, 0, none⟩ x).setCell ⟨g, 1, none⟩ y).setCell ⟨g, 2, none⟩ z = U ∧ Box U g t [x, y, z] ∧ (∀ B, B ≤ g → Below B w U) ∧ U.heap.size = w.heap.size ∧ w.grownBy U (some g) := by
  refine ⟨_, rfl, ((h.set 0 x).set 1 y).set 2 z, fun B hB => (((Below.refl B w).setCell (p := ⟨g, 0, none⟩) hB x).setCell (p := ⟨g, 1, none⟩) hB y).setCell (p := ⟨g, 2, none⟩) hB z, by simp, ?_⟩
  refine ⟨rfl, rfl, rfl, by simp, fun k hk hne => ?_⟩
  have hk' : k ≠ g := fun e => hne (by rw [e])
  exact (Below.heap_setCell _ _ _ k hk').trans ((Below.heap_setCell _ _ _ k hk').trans (Below.heap_setCell _ _ _ k hk'))

theorem grown_setG (w : World) (t i : Nat) (u : Value) : w.grownBy (w.setCell ⟨t, i, none⟩ u) (some t) :=
  ⟨rfl, rfl, rfl, by simp, fun k _ hne => Below.heap_setCell w _ u k (fun e => hne (by rw [e]))⟩
/-- a row of steps in a block of its own, and what room there is behind it -/
def LiesS (w : World) (g : Nat) (l : List St) (R : List Value) : Prop := Box w g 49 (stRow l ++ R)
theorem LiesS.rd {w : World} {g : Nat} {l : List St} {R : List Value} (h : LiesS w g l R) : RdV w w.heap.size (some ⟨g, 0, none⟩) (stRow l) := fun _ => ⟨g, 0, rfl, Box.lt h, fun j hj => by
  rw [Nat.zero_add]
  exact Box.cell h j (by rw [List.getElem?_append_left hj]; exact List.getElem?_eq_getElem hj)⟩
theorem LiesS.ofOwn {w : World} {base n : Nat} {v : Value} {l : List St} (h : w.ownsRow base 49 7 v n (stRow l)) (h0 : 0 < n) : ∃ g cap R, v = .slice (some ⟨g, 0, none⟩) n cap ∧ n ≤ cap ∧ base ≤ g ∧ LiesS w g l R := by
  have hl : (stRow l).length = n * 7 := h.1
  rcases h.2 with ⟨rfl, rfl⟩ | ⟨g, cap, cur, rfl, hb, hg, hnc, hcm, hcs, htake⟩
  · omega
  · refine ⟨g, cap, cur.toList.drop (n * 7), rfl, hnc, hb, ?_⟩
    unfold LiesS Box
    rw [← htake, List.take_append_drop]
    simpa using hg
end Go.Proofs.Ytdkgnechiloimaa
/- Letters, the program's own: a size, a part of an Em, a code, the first glyph of one. -/

namespace Go.Proofs.Ytdkgnechiloimaa
open Go.RowKit

set_option maxRecDepth 10000 in
theorem gly_sized (n : Int) (w : World) :
    Calls Try.prog 7 #[.int .i64 n] w fun e w' => e = .returned (.bool (decide (1 ≤ n ∧ n ≤ 65536))) ∧ w = w' := by
  by_cases h1 : 1 ≤ n
  · by_cases h2 : n ≤ 65536
    · rw [decide_eq_true (And.intro h1 h2)]
      go_enter Try.func7, Try.ntmps7
      go_wp2_with fail
      go_ret
      exact ⟨rfl, rfl⟩
    · rw [decide_eq_false (fun h => h2 h.2)]
      go_enter Try.func7, Try.ntmps7
      go_wp2_with fail
      go_ret
      exact ⟨rfl, rfl⟩
  · rw [decide_eq_false (fun h => h1 h.1)]
    go_enter Try.func7, Try.ntmps7
    go_wp2_with fail
    go_ret
    exact ⟨rfl, rfl⟩

set_option maxRecDepth 10000 in
theorem gly_scale (n size : Int) (hn : -16777216 ≤ n) (hn2 : n ≤ 16777216) (h1 : 1 ≤ size) (h2 : size ≤ 65536) (w : World) :
    Calls Try.prog 16 #[.int .i64 n, .int .i64 size] w fun e w' => e = .returned (.int .i64 (scaleM n size)) ∧ w = w' := by
  obtain ⟨⟨ha, hb⟩, hc, hd⟩ := scaleM_in hn hn2 h1 h2
  have m1 : IntKind.i64.wrap (n * size) = n * size := IntWalk.i64_in _ (by omega)
  have m2 : IntKind.i64.wrap (n * size + 512) = n * size + 512 := IntWalk.i64_in _ (by omega)
  go_enter Try.func16, Try.ntmps16
  go_wp2_with fail
  go_ret
  exact ⟨rfl, rfl⟩

set_option maxRecDepth 10000 in
theorem gly_codeOf (x : Glv) (w : World) :
    Calls Try.prog 21 #[gvV x] w fun e w' => e = .returned (.int .i64 x.code) ∧ Below w.heap.size w w' := by
  obtain ⟨code, adv, A, c, steps⟩ := x
  unfold gvV
  dsimp only
  obtain ⟨W, hW, kW, bW⟩ := newBox3 w 43 (.int .i64 code) (.int .i64 adv) (.slice A steps.length c)
  obtain ⟨⟨c0, c1, c2⟩, -⟩ := kW.trip3
  go_enter Try.func21, Try.ntmps21
  go_wp2_with (rw [hW])
  try rw [hW]
  go_ret
  exact ⟨rfl, bW⟩
end Go.Proofs.Ytdkgnechiloimaa
/- Letters, the program's own: slices.Clone at steps, the first glyph of a code, whether a glyph may be, a byte's glyph. -/

namespace Go.Proofs.Ytdkgnechiloimaa
open Go.RowKit

/-- a row of steps that a call made -/
def NewS (n₀ : Nat) (w : World) (A : Option Addr) (l : List St) : Prop := RdV w w.heap.size A (stRow l) ∧ ∀ b o, A = some ⟨b, o, none⟩ → 0 < l.length → n₀ ≤ b

set_option maxRecDepth 10000 in
set_option maxHeartbeats 1600000 in
theorem slices_CloneS (L : List St) (A : Option Addr) (c : Nat) (w : World) (hL : RdV w w.heap.size A (stRow L)) (hl : L.length * 56 ≤ 140737488351232) :
    Calls Try.prog 22 #[.slice A L.length c] w fun e w' => ∃ A' c', e = .returned (.slice A' L.length c') ∧ NewS w.heap.size w' A' L ∧ Below w.heap.size w w' := by
  cases A with
  | none =>
    have h0 : L = [] := by
      cases L with
      | nil => rfl
      | cons s r =>
        obtain ⟨b, o, e, -⟩ := hL (by rw [stRow_length]; simp)
        cases e
    subst h0
    have hnil : ∀ W, (binOp .eql 27 (.slice none 0 c) (.slice none 0 0)).run Try.prog W = .ok (.bool true) W := fun W => Lib.run_eql_slice_nil W _ _ _ _ _ _ _ Try.underlying27
    go_enter Try.func22, Try.ntmps22
    go_wp2_with fail
    go_ret
    exact ⟨none, 0, rfl, ⟨RdV.nil _ _ _, fun b o e => by cases e⟩, Below.refl _ _⟩
  | some a =>
    obtain ⟨i0, hi, hz0, hz1, hz2⟩ := info_parts info_stp
    obtain ⟨n, hn⟩ : ∃ n, L.length = n := ⟨_, rfl⟩
    have HL := Lib.hid (stRow_length L)
    rw [hn] at hl ⊢
    have HN := Lib.hid hn
    have HR0 := Lib.hid hL
    have hnil : ∀ W, (binOp .eql 27 (.slice (some a) n c) (.slice none 0 0)).run Try.prog W = .ok (.bool false) W := fun W => Lib.run_eql_slice_nil W _ _ _ _ _ _ _ Try.underlying27
    have hown : (w.alloc (.cells #[] 49)).ownsRow w.heap.size 49 7 (.slice (some ⟨w.heap.size, 0, none⟩) 0 0) 0 [] := ⟨rfl, .inr ⟨w.heap.size, 0, #[], rfl, Nat.le_refl _, heap_alloc_new w _, Nat.le_refl _, by simp [maxLen], rfl, rfl⟩⟩
    have hB := (Below.refl w.heap.size w).alloc (Nat.le_refl _) (.cells #[] 49)
    have HO := Lib.hid (And.intro hown hB)
    have HR := Lib.hid (show ∀ j u, (stRow L)[j]? = some u → (w.alloc (.cells #[] 49)).cell? (a.add j) = some u from by
      intro j u hu
      obtain ⟨h1, rfl⟩ := List.getElem?_eq_some_iff.1 hu
      obtain ⟨b, o, e, hb, hc⟩ := hL (by omega)
      cases e
      rw [addr_add]
      exact (hB.cell (p := ⟨b, o + j, none⟩) hb).trans (hc j h1))
    have H1 := Lib.hid (show ∀ u ∈ stRow L, u.oneCell' = true from by
      intro u hu
      obtain ⟨p, -, hp⟩ := List.mem_flatMap.1 hu
      simp only [stCells, List.mem_cons, List.not_mem_nil, or_false] at hp
      rcases hp with rfl | rfl | rfl | rfl | rfl | rfl | rfl <;> rfl)
    clear hown hB hL hn
    go_enter Try.func22, Try.ntmps22
    go_wp2_with (at_builtin; refine wpList_append_own _ rfl _ _ 27 rfl w.heap.size 49 i0 (.agg #[.int .i64 0, .int .i64 0, .int .i64 0, .int .i64 0, .int .i64 0, .int .i64 0, .int .i64 0]) 7 56 Try.underlying27 hi hz0 hz1 hz2 rfl (by decide) _ 0 _ rfl HO.out.1 a n c (stRow L) rfl (by rw [HL.out, HN.out]) HR.out H1.out (by simp [maxLen]; omega) (by omega) (by simp) ?_; intro v' w3 hown' hgrow _; replace hown' := Lib.hid hown'; replace hgrow := Lib.hid hgrow)
    have hBs := below_grow2 HO.out.2 HO.out.1 (by simp) hgrow.out
    have ho := hown'.out
    rw [Nat.zero_add, List.nil_append] at ho
    obtain ⟨p, cap, rfl, -, -, hr⟩ := RdV.ofOwnK ho
    go_ret
    refine ⟨p, cap, rfl, ⟨hr, fun b o e hb => ?_⟩, hBs⟩
    have := (ho.lt b (by rw [e]; rfl)).1
    exact this

set_option maxRecDepth 10000 in
set_option maxHeartbeats 1600000 in
theorem gly_seek (L : List Glv) (A : Option Addr) (c : Nat) (code : Int) (w : World) (hL : RdGlv w w.heap.size A L) (hl : L.length ≤ 4611686018427387904) :
    Calls Try.prog 20 #[.slice A L.length c, .int .i64 code, .func (.func 21) #[] #[]] w fun e w' => e = .returned (.tuple #[gvV (seekV L code).1, .bool (seekV L code).2]) ∧ Below w.heap.size w w' := by
  obtain ⟨n, hn⟩ : ∃ n, L.length = n := ⟨_, rfl⟩
  have HN := Lib.hid hn
  have HL := Lib.hid hL
  rw [hn] at hl ⊢
  obtain ⟨R, hR⟩ : ∃ R, seekV L code = R := ⟨_, rfl⟩
  have HR := Lib.hid hR
  rw [hR]
  clear hn hL hR
  obtain ⟨W, hW, kW, bW⟩ := newBox3 w 43 (.int .i64 0) (.int .i64 0) (.slice none 0 0)
  have HW := Lib.hid (And.intro kW bW)
  clear kW bW
  go_enter Try.func20, Try.ntmps20
  go_wp2_with (rw [hW])
  try rw [hW]
  go_loopg [13] n (fun gh it wr => ∃ i : Nat, it = .int .i64 (i : Int) ∧ gh + i = n ∧ (∀ x ∈ L.take i, x.code ≠ code) ∧ Box wr w.heap.size 43 [.int .i64 0, .int .i64 0, .slice none 0 0] ∧ Below w.heap.size w wr)
  case atStart => exact ⟨0, rfl, by omega, by simp, HW.out.1, HW.out.2⟩
  case round =>
    obtain ⟨i, rfl, hg, hno, kB, hB⟩ := hrel
    have HGI := Lib.hid hg
    by_cases hlt : i < n
    · have hlt' : i < L.length := by rw [HN.out]; exact hlt
      obtain ⟨b, o, rfl, hb, e0, e1, e2, -⟩ := (HL.out.below hB).row (i := i) hlt'
      have hil : (i : Int) < (n : Int) := by omega
      obtain ⟨x, hx⟩ : ∃ x, L[i] = x := ⟨_, rfl⟩
      rw [hx] at e0 e1 e2
      obtain ⟨W2, hW2, k2, b2⟩ := newBox3 wr 43 (.int .i64 x.code) (.int .i64 x.adv) (.slice x.A x.steps.length x.c)
      have cC := fun V => gly_codeOf x V
      have HAT := Lib.hid (fun h : x.code = code => (seekV_at hlt' hno (by rw [hx]; exact h)).trans (by rw [hx]))
      have HNX := Lib.hid (fun h : x.code ≠ code => show ∀ y ∈ L.take (i + 1), y.code ≠ code from by
        rw [List.take_succ_eq_append_getElem hlt', hx]
        intro y hy
        rcases List.mem_append.1 hy with h1 | h1
        · exact hno y h1
        · simp at h1; subst h1; exact h)
      have HK := Lib.hid (And.intro (And.intro (kB.below b2 kB.lt) k2) (hB.trans (b2.mono (Nat.le_of_lt kB.lt))))
      have hwl := kB.lt
      have HB2 := Lib.hid b2
      obtain ⟨code', adv, A', c', steps⟩ := x
      unfold gvV at cC
      dsimp only at cC e0 e1 e2 hW2 HAT HNX HK
      have CC := Lib.hid cC
      have hw2 : wr.heap.size < W2.heap.size := k2.lt
      obtain ⟨⟨x0, x1, x2⟩, -⟩ := k2.trip3
      clear hno kB hB hx hlt' cC k2 b2
      by_cases hc : code' = code
      · subst hc
        go_wp2_with first
          | (rw [hW2])
          | ((try rw [hW2]); go_at_call 21; (with_reducible refine Calls.mono (CC.out _) ?_); rintro e w3 ⟨rfl, b3⟩
             have HB3 := Lib.hid (HK.out.2.trans (b3.mono HK.out.2.size))
             have k3 := HK.out.1.2.below b3 hw2
             obtain ⟨⟨y0, y1, y2⟩, -⟩ := k3.trip3
             have k4 := HK.out.1.1.below b3 (by omega)
             obtain ⟨⟨t0, t1, t2⟩, u0, u1, u2⟩ := k4.trip3
             obtain ⟨U, hU, kU, bU, -, -⟩ := k4.put3g (.int .i64 code') (.int .i64 adv) (.slice A' steps.length c')
             have HE := Lib.hid (And.intro kU (HB3.out.trans (bU w.heap.size (Nat.le_refl _))))
             clear b3 k3 k4 kU bU)
        try rw [hU]
        obtain ⟨⟨z0, z1, z2⟩, -⟩ := HE.out.1.trip3
        have hr := HAT.out trivial
        rw [HR.out] at hr
        subst hr
        refine bodyPost_ret (by simp [results, Try.results20, go_sem, z0, z1, z2]; rfl) rfl ⟨rfl, HE.out.2⟩
      · have hcb : (code' == code) = false := by simpa using hc
        go_wp2_with first
          | (rw [hW2])
          | ((try rw [hW2]); go_at_call 21; (with_reducible refine Calls.mono (CC.out _) ?_); rintro e w3 ⟨rfl, b3⟩
             have HB3 := Lib.hid (HK.out.2.trans (b3.mono HK.out.2.size))
             have K4 := Lib.hid (HK.out.1.1.below b3 (by omega))
             clear b3)
        go_roundg (n - (i + 1))
        case measure => have := HGI.out; omega
        case rel => exact ⟨i + 1, by simp, by have := HGI.out; omega, HNX.out hc, K4.out, HB3.out⟩
    · obtain rfl : i = n := by omega
      have HS := Lib.hid (seekV_none (l := L) (c := code) (by rw [← HN.out, List.take_length] at hno; exact hno))
      have hil : ¬ (i : Int) < (i : Int) := by omega
      obtain ⟨W2, hW2, k2, b2⟩ := newBox3 wr 43 (.int .i64 0) (.int .i64 0) (.slice none 0 0)
      obtain ⟨⟨x0, x1, x2⟩, -⟩ := k2.trip3
      have k4 := kB.below b2 kB.lt
      obtain ⟨⟨t0, t1, t2⟩, u0, u1, u2⟩ := k4.trip3
      obtain ⟨U, hU, kU, bU, -, -⟩ := k4.put3g (.int .i64 0) (.int .i64 0) (.slice none 0 0)
      have HE := Lib.hid (And.intro kU ((hB.trans (b2.mono (Nat.le_of_lt kB.lt))).trans (bU w.heap.size (Nat.le_refl _))))
      have hr := HS.out
      rw [HR.out] at hr
      subst hr
      clear hno kB hB k2 b2 k4 kU bU
      go_wp2_with (rw [hW2])
      try rw [hW2]
      try rw [hU]
      obtain ⟨⟨z0, z1, z2⟩, -⟩ := HE.out.1.trip3
      refine bodyPost_ret (by simp [results, Try.results20, go_sem, z0, z1, z2]; rfl) rfl ⟨rfl, HE.out.2⟩
end Go.Proofs.Ytdkgnechiloimaa
/- Letters, the program's own: the first glyph of a code with steps of its own, whether a glyph may be, a byte's glyph. -/

namespace Go.Proofs.Ytdkgnechiloimaa
open Go.RowKit

/-- a glyph with steps that lie elsewhere -/
def Glv.put (x : Glv) (A : Option Addr) (c : Nat) : Glv := ⟨x.code, x.adv, A, c, x.steps⟩
theorem Glv.put_gl (x : Glv) (A : Option Addr) (c : Nat) : (x.put A c).gl = x.gl := rfl
theorem NewS.below {n₀ : Nat} {w w' : World} {A : Option Addr} {l : List St} (h : NewS n₀ w A l) (hb : Below w.heap.size w w') : NewS n₀ w' A l := ⟨h.1.on hb, h.2⟩
theorem NewS.nil (n₀ : Nat) (w : World) (A : Option Addr) : NewS n₀ w A [] := ⟨RdV.nil _ _ _, fun _ _ _ h => by simp at h⟩
theorem NewS.grown {n₀ r : Nat} {w w' : World} {A : Option Addr} {l : List St} (h : NewS n₀ w A l) (hg : w.grownBy w' (some r)) (hr : r < n₀) : NewS n₀ w' A l := ⟨fun hn => by
  obtain ⟨b, o, e, hl, hc⟩ := h.1 hn
  have hb := h.2 b o e (by rw [stRow_length] at hn; omega)
  exact ⟨b, o, e, Nat.lt_of_lt_of_le hl hg.size, fun j hj => hg.cell (hc j hj) (fun e2 => by
    have e3 : b = r := by injection e2
    omega)⟩, h.2⟩
theorem NewS.mono {n₀ n₁ : Nat} {w : World} {A : Option Addr} {l : List St} (h : NewS n₁ w A l) (hn : n₀ ≤ n₁) : NewS n₀ w A l := ⟨h.1, fun b o e hl => Nat.le_trans hn (h.2 b o e hl)⟩

set_option maxRecDepth 10000 in
set_option maxHeartbeats 1600000 in
theorem gly_Find (L : List Glv) (A : Option Addr) (c : Nat) (code : Int) (w : World) (hL : RdGlv w w.heap.size A L) (hl : L.length ≤ 4611686018427387904) :
    Calls Try.prog 17 #[.slice A L.length c, .int .i64 code] w fun e w' => ∃ A' c', e = .returned (.tuple #[gvV ((seekV L code).1.put A' c'), .bool (seekV L code).2]) ∧ NewS w.heap.size w' A' (seekV L code).1.steps ∧ Below w.heap.size w w' := by
  have hx : ∀ V, Below w.heap.size w V → RdV V w.heap.size (seekV L code).1.A (stRow (seekV L code).1.steps) ∧ (seekV L code).1.steps.length * 56 ≤ 140737488351232 := fun V hV => by
    rcases seekV_mem (l := L) (c := code) with h | h
    · exact ⟨(hL.2 _ h).1.below hV, (hL.2 _ h).2⟩
    · rw [h]; exact ⟨RdV.nil _ _ _, by simp [gv0]⟩
  obtain ⟨W, hW, kW, bW⟩ := newBox3 w 43 (.int .i64 0) (.int .i64 0) (.slice none 0 0)
  have hws : w.heap.size < W.heap.size := kW.lt
  have cS := gly_seek L A c code W (hL.on bW) hl
  obtain ⟨R, hR⟩ : ∃ R, seekV L code = R := ⟨_, rfl⟩
  rw [hR] at cS ⊢
  simp only [hR] at hx
  clear hR
  obtain ⟨⟨xc, xa, xA, xk, xs⟩, ok⟩ := R
  unfold gvV at cS ⊢
  dsimp only [Glv.put] at *
  have HX := Lib.hid hx
  have HW := Lib.hid (And.intro kW bW)
  have CS := Lib.hid cS
  clear hx kW bW cS hL
  go_enter Try.func17, Try.ntmps17
  go_wp2_with first
    | (rw [hW])
    | ((try rw [hW]); go_at_call 20; (with_reducible refine Calls.mono CS.out ?_); rintro e w1 ⟨rfl, b1⟩
       obtain ⟨W2, hW2, k2, b2⟩ := newBox3 w1 43 (.int .i64 xc) (.int .i64 xa) (.slice xA xs.length xk)
       have HB2 := Lib.hid (HW.out.2.trans ((b1.trans (b2.mono b1.size)).mono HW.out.2.size))
       have K1 := Lib.hid (HW.out.1.below (b1.trans (b2.mono b1.size)) hws)
       have K2 := Lib.hid k2
       have hw2 : w1.heap.size < W2.heap.size := k2.lt
       have hw1 : W.heap.size ≤ w1.heap.size := b1.size
       obtain ⟨⟨x0, x1, x2⟩, -⟩ := k2.trip3
       have CC := Lib.hid (slices_CloneS xs xA xk W2 (((HX.out W2 HB2.out).1).mono HB2.out.size) (HX.out W2 HB2.out).2)
       clear b1 k2 b2)
    | (rw [hW2])
    | ((try rw [hW2]); go_at_call 22; (with_reducible refine Calls.mono CC.out ?_); rintro e w3 ⟨A', c', rfl, hn3, b3⟩
       have HB3 := Lib.hid (HB2.out.trans (b3.mono HB2.out.size))
       have k4 := K1.out.below b3 (by omega)
       have k5 := K2.out.below b3 hw2
       obtain ⟨⟨y0, y1, y2⟩, v0, v1, v2⟩ := k5.trip3
       obtain ⟨X, hX⟩ : ∃ X, w3.setCell ⟨w1.heap.size, 2, none⟩ (.slice A' xs.length c') = X := ⟨_, rfl⟩
       have k6 : Box X w1.heap.size 43 [.int .i64 xc, .int .i64 xa, .slice A' xs.length c'] := by rw [← hX]; exact k5.set 2 _
       have k7 : Box X w.heap.size 43 [.int .i64 0, .int .i64 0, .slice none 0 0] := by rw [← hX]; exact k4.far (by show w.heap.size ≠ w1.heap.size; omega) _
       have HBX := Lib.hid (show Below w.heap.size w X by rw [← hX]; exact HB3.out.setCell (p := ⟨w1.heap.size, 2, none⟩) (by show w.heap.size ≤ w1.heap.size; omega) _)
       obtain ⟨⟨t0, t1, t2⟩, -⟩ := k6.trip3
       obtain ⟨⟨s0, s1, s2⟩, u0, u1, u2⟩ := k7.trip3
       obtain ⟨U, hU, kU, bU, hUs, hUg⟩ := k7.put3g (.int .i64 xc) (.int .i64 xa) (.slice A' xs.length c')
       have HE := Lib.hid (And.intro kU (And.intro (HBX.out.trans (bU w.heap.size (Nat.le_refl _))) ((hn3.grown (grown_setG w3 w1.heap.size 2 (.slice A' xs.length c')) (by omega)).grown (by rw [hX]; exact hUg) (by omega))))
       clear hn3 b3 k4 k5 k6 k7 kU bU hUs hUg)
    | (rw [hX])
  try rw [hU]
  obtain ⟨⟨z0, z1, z2⟩, -⟩ := HE.out.1.trip3
  refine bodyPost_ret (by simp [results, Try.results17, go_sem, z0, z1, z2]) rfl ⟨A', c', rfl, HE.out.2.2.mono (by omega), HE.out.2.1⟩

set_option maxRecDepth 10000 in
set_option maxHeartbeats 1600000 in
theorem gly_May (x : Glv) (w : World) (hx : RdV w w.heap.size x.A (stRow x.steps)) (hl : x.steps.length * 56 ≤ 140737488351232) :
    Calls Try.prog 18 #[gvV x] w fun e w' => e = .returned (.bool (decide (MayG x.gl))) ∧ Below w.heap.size w w' := by
  have hf : (x.code < 33 ∨ 126 < x.code ∨ x.adv < 0 ∨ 8388607 < x.adv) → decide (MayG x.gl) = false := fun h => decide_eq_false fun m => by
    have h1 := m.1
    have h2 := m.2.1
    simp only [Glv.gl] at h1 h2
    omega
  have ht : (33 ≤ x.code ∧ x.code ≤ 126) → (0 ≤ x.adv ∧ x.adv ≤ 8388607) → decide (MayG x.gl) = (checkM x.steps == 0) := fun h1 h2 => by
    by_cases hE : checkM x.steps = 0
    · rw [decide_eq_true (show MayG x.gl from ⟨h1, h2, hE⟩)]
      simp [hE]
    · rw [decide_eq_false (show ¬ MayG x.gl from fun m => hE m.2.2)]
      simp [hE]
  obtain ⟨r, hr⟩ : ∃ r, decide (MayG x.gl) = r := ⟨_, rfl⟩
  rw [hr] at hf ht ⊢
  clear hr
  obtain ⟨code, adv, A, c, steps⟩ := x
  unfold gvV
  dsimp only at *
  obtain ⟨W, hW, kW, bW⟩ := newBox3 w 43 (.int .i64 code) (.int .i64 adv) (.slice A steps.length c)
  obtain ⟨⟨c0, c1, c2⟩, -⟩ := kW.trip3
  have cC := path_Count steps A c W (hx.on bW) (by omega)
  obtain ⟨E, hE⟩ : ∃ E, checkM steps = E := ⟨_, rfl⟩
  rw [hE] at cC ht
  have CC := Lib.hid cC
  have HB := Lib.hid bW
  have HF := Lib.hid hf
  have HT := Lib.hid ht
  clear cC kW bW hx hE hf ht
  by_cases h1 : code < 33
  · rw [HF.out (.inl h1)]
    go_enter Try.func18, Try.ntmps18
    go_wp2_with (rw [hW])
    try rw [hW]
    go_ret
    exact ⟨rfl, HB.out⟩
  by_cases h2 : 126 < code
  · rw [HF.out (.inr (.inl h2))]
    go_enter Try.func18, Try.ntmps18
    go_wp2_with (rw [hW])
    try rw [hW]
    go_ret
    exact ⟨rfl, HB.out⟩
  by_cases h3 : adv < 0
  · rw [HF.out (.inr (.inr (.inl h3)))]
    go_enter Try.func18, Try.ntmps18
    go_wp2_with (rw [hW])
    try rw [hW]
    go_ret
    exact ⟨rfl, HB.out⟩
  by_cases h4 : 8388607 < adv
  · rw [HF.out (.inr (.inr (.inr h4)))]
    go_enter Try.func18, Try.ntmps18
    go_wp2_with (rw [hW])
    try rw [hW]
    go_ret
    exact ⟨rfl, HB.out⟩
  rw [HT.out ⟨by omega, by omega⟩ ⟨by omega, by omega⟩]
  go_enter Try.func18, Try.ntmps18
  go_wp2_with first
    | (rw [hW])
    | ((try rw [hW]); go_at_call 23; (with_reducible refine Calls.mono CC.out ?_); rintro e w1 ⟨rfl, b1⟩; have H1 := Lib.hid (HB.out.trans (b1.mono HB.out.size)); clear b1)
  all_goals
    go_ret
    exact ⟨rfl, H1.out⟩
end Go.Proofs.Ytdkgnechiloimaa
/- Letters, the program's own: a byte's glyph. -/

namespace Go.Proofs.Ytdkgnechiloimaa
open Go.RowKit

/-- a glyph that a call made, as it lies -/
def NewG (n₀ : Nat) (w : World) (y : Glv) (g : Gl) : Prop := y.gl = g ∧ NewS n₀ w y.A y.steps
theorem gvV_zero : gvV gv0 = .agg #[.int .i64 0, .int .i64 0, .slice none 0 0] := rfl
theorem NewG.zero (n₀ : Nat) (w : World) : NewG n₀ w gv0 gl0 := ⟨rfl, NewS.nil _ _ _⟩

set_option maxRecDepth 10000 in
set_option maxHeartbeats 3200000 in
theorem gly_letter (L : List Glv) (A : Option Addr) (c : Nat) (u : UInt8) (w : World) (hL : RdGlv w w.heap.size A L) (hl : L.length ≤ 4611686018427387904) :
    Calls Try.prog 14 #[.slice A L.length c, .int .u8 (u.toNat : Int)] w fun e w' => ∃ y : Glv, e = .returned (.tuple #[gvV y, .int .i64 (letterM (L.map Glv.gl) (u.toNat : Int)).2]) ∧ NewG w.heap.size w' y (letterM (L.map Glv.gl) (u.toNat : Int)).1 ∧ Below w.heap.size w w' := by
  have hu : u.toNat < 256 := u.toNat_lt
  obtain ⟨W, hW, kW, bW⟩ := newBox3 w 43 (.int .i64 0) (.int .i64 0) (.slice none 0 0)
  have hws : w.heap.size < W.heap.size := kW.lt
  have cF := gly_Find L A c (u.toNat : Int) W (hL.on bW) hl
  have hlet := letterM_seek L (u.toNat : Int)
  have hsl : (seekV L (u.toNat : Int)).1.steps.length * 56 ≤ 140737488351232 := by
    rcases seekV_mem (l := L) (c := (u.toNat : Int)) with h | h
    · exact (hL.2 _ h).2
    · rw [h]; simp [gv0]
  obtain ⟨R, hR⟩ : ∃ R, seekV L (u.toNat : Int) = R := ⟨_, rfl⟩
  obtain ⟨M, hM⟩ : ∃ M, letterM (L.map Glv.gl) (u.toNat : Int) = M := ⟨_, rfl⟩
  rw [hR] at cF hlet hsl
  rw [hM] at hlet ⊢
  obtain ⟨k, hk⟩ : ∃ k : Int, (u.toNat : Int) = k := ⟨_, rfl⟩
  rw [hk] at cF ⊢
  have hk2 : 0 ≤ k ∧ k < 256 := by omega
  have hwk : IntKind.i64.wrap k = k := IntWalk.i64_in _ (by omega)
  clear hR hM hk hu hL
  obtain ⟨x, ok⟩ := R
  obtain ⟨g, E⟩ := M
  dsimp only at *
  have CF := Lib.hid cF
  have HW := Lib.hid (And.intro kW bW)
  have HLT := Lib.hid hlet
  have HSL := Lib.hid hsl
  clear cF kW bW hlet hsl
  cases ok with
  | false =>
    have hgE := HLT.out
    simp only [Bool.false_eq_true, if_false, Prod.mk.injEq] at hgE
    obtain ⟨rfl, rfl⟩ := hgE
    go_enter Try.func14, Try.ntmps14
    go_wp2_with first
      | (rw [hW])
      | ((try rw [hW]); go_at_call 17; (with_reducible refine Calls.mono CF.out ?_); rintro e w1 ⟨A', c', rfl, hn1, b1⟩
         go_loud (
         unfold gvV Glv.put
         dsimp only
         obtain ⟨W2, hW2, k2, b2⟩ := newBox3 w1 43 (.int .i64 x.code) (.int .i64 x.adv) (.slice A' x.steps.length c')
         have HB2 := Lib.hid (HW.out.2.trans ((b1.trans (b2.mono b1.size)).mono HW.out.2.size))
         have k1 := HW.out.1.below (b1.trans (b2.mono b1.size)) hws
         obtain ⟨⟨x0, x1, x2⟩, u0, u1, u2⟩ := k1.trip3
         obtain ⟨U, hU, kU, bU, hUs, hUg⟩ := k1.put3g (.int .i64 0) (.int .i64 0) (.slice none 0 0)
         have HE := Lib.hid (And.intro kU (HB2.out.trans (bU w.heap.size (Nat.le_refl _))))
         clear hn1 b1 k2 b2 k1 kU bU hUs hUg))
      | (rw [hW2])
    try rw [hU]
    obtain ⟨⟨z0, z1, z2⟩, -⟩ := HE.out.1.trip3
    refine bodyPost_ret (by simp [results, Try.results14, go_sem, z0, z1, z2]; rfl) rfl ⟨gv0, rfl, NewG.zero _ _, HE.out.2⟩
  | true =>
    by_cases hm : MayG x.gl
    · have hgE := HLT.out
      simp only [if_true, if_pos hm, Prod.mk.injEq] at hgE
      obtain ⟨rfl, rfl⟩ := hgE
      go_enter Try.func14, Try.ntmps14
      go_wp2_with first
        | (rw [hW])
        | ((try rw [hW]); go_at_call 17; (with_reducible refine Calls.mono CF.out ?_); rintro e w1 ⟨A', c', rfl, hn1, b1⟩
           go_loud (
           obtain ⟨W2, hW2, k2, b2⟩ := newBox3 w1 43 (.int .i64 x.code) (.int .i64 x.adv) (.slice A' x.steps.length c')
           have hN2 := hn1.below (b2.mono (Nat.le_refl _))
           have cM := gly_May (x.put A' c') W2 hN2.1 HSL.out
           rw [decide_eq_true (show MayG (x.put A' c').gl from hm)] at cM
           unfold gvV Glv.put at cM ⊢
           dsimp only at cM ⊢
           have CM := Lib.hid cM
           have HB2 := Lib.hid (And.intro (HW.out.2.trans ((b1.trans (b2.mono b1.size)).mono HW.out.2.size)) hN2)
           have K1 := Lib.hid (And.intro (HW.out.1.below (b1.trans (b2.mono b1.size)) hws) k2)
           have hw2 : w1.heap.size < W2.heap.size := k2.lt
           have hw1 : W.heap.size ≤ w1.heap.size := b1.size
           obtain ⟨⟨x0, x1, x2⟩, -⟩ := k2.trip3
           clear hn1 b1 k2 b2 hN2 cM))
        | (rw [hW2])
        | ((try rw [hW2]); go_at_call 18; (with_reducible refine Calls.mono CM.out ?_); rintro e w3 ⟨rfl, b3⟩
           go_loud (
           have HB3 := Lib.hid (HB2.out.1.trans (b3.mono HB2.out.1.size))
           have N3 := Lib.hid (HB2.out.2.below b3)
           have k4 := K1.out.1.below b3 (by omega)
           have k5 := K1.out.2.below b3 hw2
           obtain ⟨⟨y0, y1, y2⟩, -⟩ := k5.trip3
           obtain ⟨⟨s0, s1, s2⟩, u0, u1, u2⟩ := k4.trip3
           obtain ⟨U, hU, kU, bU, hUs, hUg⟩ := k4.put3g (.int .i64 x.code) (.int .i64 x.adv) (.slice A' x.steps.length c')
           have HE := Lib.hid (And.intro kU (And.intro (HB3.out.trans (bU w.heap.size (Nat.le_refl _))) (N3.out.grown hUg hws)))
           clear b3 k4 k5 kU bU hUs hUg))
      try rw [hU]
      obtain ⟨⟨z0, z1, z2⟩, -⟩ := HE.out.1.trip3
      refine bodyPost_ret (by simp [results, Try.results14, go_sem, z0, z1, z2]; rfl) rfl ⟨x.put A' c', rfl, ⟨rfl, HE.out.2.2.mono (Nat.le_of_lt hws)⟩, HE.out.2.1⟩
    · have hgE := HLT.out
      simp only [if_true, if_neg hm, Prod.mk.injEq] at hgE
      obtain ⟨rfl, rfl⟩ := hgE
      go_enter Try.func14, Try.ntmps14
      go_wp2_with first
        | (rw [hW])
        | ((try rw [hW]); go_at_call 17; (with_reducible refine Calls.mono CF.out ?_); rintro e w1 ⟨A', c', rfl, hn1, b1⟩
           go_loud (
           obtain ⟨W2, hW2, k2, b2⟩ := newBox3 w1 43 (.int .i64 x.code) (.int .i64 x.adv) (.slice A' x.steps.length c')
           have hN2 := hn1.below (b2.mono (Nat.le_refl _))
           have cM := gly_May (x.put A' c') W2 hN2.1 HSL.out
           rw [decide_eq_false (show ¬ MayG (x.put A' c').gl from hm)] at cM
           unfold gvV Glv.put at cM ⊢
           dsimp only at cM ⊢
           have CM := Lib.hid cM
           have HB2 := Lib.hid (And.intro (HW.out.2.trans ((b1.trans (b2.mono b1.size)).mono HW.out.2.size)) hN2)
           have K1 := Lib.hid (And.intro (HW.out.1.below (b1.trans (b2.mono b1.size)) hws) k2)
           have hw2 : w1.heap.size < W2.heap.size := k2.lt
           have hw1 : W.heap.size ≤ w1.heap.size := b1.size
           obtain ⟨⟨x0, x1, x2⟩, -⟩ := k2.trip3
           clear hn1 b1 k2 b2 hN2 cM))
        | (rw [hW2])
        | ((try rw [hW2]); go_at_call 18; (with_reducible refine Calls.mono CM.out ?_); rintro e w3 ⟨rfl, b3⟩
           go_loud (
           have HB3 := Lib.hid (HB2.out.1.trans (b3.mono HB2.out.1.size))
           have k4 := K1.out.1.below b3 (by omega)
           obtain ⟨⟨s0, s1, s2⟩, u0, u1, u2⟩ := k4.trip3
           obtain ⟨U, hU, kU, bU, hUs, hUg⟩ := k4.put3g (.int .i64 0) (.int .i64 0) (.slice none 0 0)
           have HE := Lib.hid (And.intro kU (HB3.out.trans (bU w.heap.size (Nat.le_refl _))))
           clear b3 k4 kU bU hUs hUg))
      try rw [hU]
      obtain ⟨⟨z0, z1, z2⟩, -⟩ := HE.out.1.trip3
      refine bodyPost_ret (by simp [results, Try.results14, go_sem, z0, z1, z2]; rfl) rfl ⟨gv0, rfl, NewG.zero _ _, HE.out.2⟩
end Go.Proofs.Ytdkgnechiloimaa
