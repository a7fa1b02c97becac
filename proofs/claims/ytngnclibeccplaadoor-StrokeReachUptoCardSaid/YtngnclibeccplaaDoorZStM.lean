/- Areas as they lie: a row of rows of points; a pen as it lies. -/
import Derived.Test.YtngnclibeccplaaDoorZDsV
import Derived.Test.YtngnclibeccplaaDoorZGaV
namespace Go.Proofs.YtngnclibeccplaaDoor
open Go.RowKit

/-- an area as it lies -/
structure Av where
  A : Option Addr
  c : Nat
  pts : List Pt
def avCells (l : List Av) : List Value := l.map fun x => .slice x.A x.pts.length x.c
def Av.all (l : List Av) : List (List Pt) := l.map fun x => x.pts
theorem avCells_length (l : List Av) : (avCells l).length = l.length := by simp [avCells]
theorem avCells_append (a b : List Av) : avCells (a ++ b) = avCells a ++ avCells b := by simp [avCells]
theorem avs_length {V : List Av} {a : List (List Pt)} (h : Av.all V = a) : V.length = a.length := by
  have := congrArg List.length h
  simpa [Av.all] using this
/-- areas that are read -/
def RdAs (w : World) (B : Nat) (p : Option Addr) (l : List Av) : Prop := RdV w B p (avCells l) ∧ ∀ x ∈ l, RdV w B x.A (ptRow x.pts)
theorem RdAs.below {w w' : World} {B : Nat} {p : Option Addr} {l : List Av} (h : RdAs w B p l) (hb : Below B w w') : RdAs w' B p l := ⟨h.1.below hb, fun x hx => (h.2 x hx).below hb⟩
theorem RdAs.mono {w : World} {B B' : Nat} {p : Option Addr} {l : List Av} (h : RdAs w B p l) (hb : B ≤ B') : RdAs w B' p l := ⟨h.1.mono hb, fun x hx => (h.2 x hx).mono hb⟩
theorem RdAs.on {w w' : World} {p : Option Addr} {l : List Av} (h : RdAs w w.heap.size p l) (hb : Below w.heap.size w w') : RdAs w' w'.heap.size p l := (h.below hb).mono hb.size
theorem RdAs.nil (w : World) (B : Nat) (p : Option Addr) : RdAs w B p [] := ⟨RdV.nil w B p, fun x hx => by cases hx⟩
theorem RdAs.row {w : World} {B : Nat} {p : Option Addr} {l : List Av} (h : RdAs w B p l) {i : Nat} (hi : i < l.length) : ∃ b o, p = some ⟨b, o, none⟩ ∧ b < B ∧ w.cell? ⟨b, o + i, none⟩ = some (.slice l[i].A l[i].pts.length l[i].c) := by
  obtain ⟨b, o, h1, h2, h3⟩ := h.1 (by rw [avCells_length]; omega)
  exact ⟨b, o, h1, h2, by rw [h3 i (by rw [avCells_length]; exact hi)]; simp [avCells]⟩
/-- a pen as it is handed over -/
def penV (P : Pn) (B : Option Addr) (d : Nat) : Value := .agg #[.int .i64 P.w, .int .i64 P.cap, .int .i64 P.join, .int .i64 P.lim, .slice B P.dash.length d, .int .i64 P.phase]
def In64 (x : Int) : Prop := -9223372036854775808 ≤ x ∧ x ≤ 9223372036854775807
def PnIn (P : Pn) : Prop := In64 P.w ∧ In64 P.cap ∧ In64 P.join ∧ In64 P.lim ∧ In64 P.phase
/-- what Line answers -/
def StrokeTo (L : List Pt) (cl : Bool) (P : Pn) (w : World) (e : Ending) (w' : World) : Prop :=
  (∃ q k V, e = .returned (.tuple #[.slice q (List.length V) k, .int .i64 (strokeM L cl P).2]) ∧ Av.all V = (strokeM L cl P).1 ∧ V.length ≤ k ∧ RdAs w' w'.heap.size q V) ∧ Below w.heap.size w w'
theorem low_fit {l : List Pt} (h : FitL l) : ∀ n, FitP (lowTo l n)
  | 0 => h.getD 0
  | n + 1 => by
    have h1 := low_fit h n
    have h2 := h.getD n
    unfold FitP at *
    simp only [lowTo, lowP]
    omega
theorem high_fit {l : List Pt} (h : FitL l) : ∀ n, FitP (highTo l n)
  | 0 => h.getD 0
  | n + 1 => by
    have h1 := high_fit h n
    have h2 := h.getD n
    unfold FitP at *
    simp only [highTo, highP]
    omega
/-- the boxes of a line and a pen that came in -/
theorem lp_boxes (w : World) (a b c d e f g h : Value) (s t : TypeId) : ∃ W, (w.alloc (.cells #[a, b] s)).alloc (.cells #[c, d, e, f, g, h] t) = W ∧ Box W w.heap.size s [a, b] ∧ Box W (w.heap.size + 1) t [c, d, e, f, g, h] ∧ Below w.heap.size w W :=
  ⟨_, rfl, (Box.new w s [a, b]).alloc _, Box.at_new (w.alloc (.cells #[a, b] s)) t [c, d, e, f, g, h] (by simp), ((Below.refl _ w).alloc (Nat.le_refl _) _).alloc (by simp) _⟩
end Go.Proofs.YtngnclibeccplaaDoor
