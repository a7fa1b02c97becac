/- Rows of spots: two rows that rise and hold the same classes are the same, class by class; what insertion and what sorting and cutting leave. -/
import Derived.Test.YtokaapljlpngdaaGreatDoorMB
import Derived.Test.YtokaapljlpngdaaGreatDoorMA
import Derived.Lib.QuietBelow
import Derived.BigQuiet
import Derived.Test.YtokaapljlpngdaaGreatDoorZLawO
import Derived.Calls
import Derived.Shelf.SlSortCmp.Whole1
import Derived.Lib.OwnBridge
import Derived.Test.YtokaapljlpngdaaGreatDoorShelfS
namespace Go.Proofs.YtokaapljlpngdaaGreatDoor.rows

/-- an order on indices, in which two may be equal -/
structure Ord (cf : Nat → Nat → Int) : Prop where
  anti : ∀ i j, cf j i = - cf i j
  trans : ∀ i j k, cf i j ≤ 0 → cf j k ≤ 0 → cf i k ≤ 0
variable {cf : Nat → Nat → Int}
theorem Ord.self (h : Ord cf) (i : Nat) : cf i i = 0 := by have := h.anti i i; omega
theorem Ord.lt_of_lt_le (h : Ord cf) {i j k : Nat} (h1 : cf i j < 0) (h2 : cf j k ≤ 0) : cf i k < 0 := by
  have h3 := h.trans i j k (by omega) h2
  rcases Int.lt_or_le (cf i k) 0 with h4 | h4
  · exact h4
  · have h5 := h.trans j k i h2 (by have := h.anti i k; omega)
    have := h.anti i j; omega
theorem Ord.lt_of_le_lt (h : Ord cf) {i j k : Nat} (h1 : cf i j ≤ 0) (h2 : cf j k < 0) : cf i k < 0 := by
  have h3 := h.trans i j k h1 (by omega)
  rcases Int.lt_or_le (cf i k) 0 with h4 | h4
  · exact h4
  · have h5 := h.trans k i j (by have := h.anti i k; omega) h1
    have := h.anti j k; omega
theorem Ord.eq_left (h : Ord cf) {i j : Nat} (k : Nat) (e : cf i j = 0) : (cf i k < 0 ↔ cf j k < 0) ∧ (cf i k = 0 ↔ cf j k = 0) := by
  have e' : cf j i = 0 := by have := h.anti i j; omega
  have a : cf i k < 0 ↔ cf j k < 0 := ⟨fun x => h.lt_of_le_lt (by omega) x, fun x => h.lt_of_le_lt (by omega) x⟩
  have b : cf i k ≤ 0 ↔ cf j k ≤ 0 := ⟨fun x => h.trans j i k (by omega) x, fun x => h.trans i j k (by omega) x⟩
  omega
/-- rising: each below all behind it -/
def Rising (cf : Nat → Nat → Int) (l : List Nat) : Prop := l.Pairwise fun a b => cf a b < 0
/-- class by class the same -/
def Alike (cf : Nat → Nat → Int) : List Nat → List Nat → Prop
  | [], [] => True
  | a :: l, b :: r => cf a b = 0 ∧ Alike cf l r
  | _, _ => False
theorem Alike.length : ∀ {l r : List Nat}, Alike cf l r → l.length = r.length
  | [], [], _ => rfl
  | [], _ :: _, h => h.elim
  | _ :: _, [], h => h.elim
  | _ :: _, _ :: _, h => by simp [Alike.length h.2]
theorem Alike.get : ∀ {l r : List Nat}, Alike cf l r → ∀ (k : Nat) (hl : k < l.length) (hr : k < r.length), cf l[k] r[k] = 0
  | [], [], _, _, hl, _ => by simp at hl
  | [], _ :: _, h, _, _, _ => h.elim
  | _ :: _, [], h, _, _, _ => h.elim
  | _ :: _, _ :: _, h, 0, _, _ => h.1
  | _ :: _, _ :: _, h, k + 1, hl, hr => Alike.get h.2 k (by simpa using hl) (by simpa using hr)
/-- two rising rows with the same classes are the same, class by class -/
theorem alike_of (h : Ord cf) : ∀ (l r : List Nat), Rising cf l → Rising cf r → (∀ a ∈ l, ∃ b ∈ r, cf a b = 0) → (∀ b ∈ r, ∃ a ∈ l, cf b a = 0) → Alike cf l r
  | [], [], _, _, _, _ => trivial
  | [], b :: _, _, _, _, h2 => by obtain ⟨a, ha, -⟩ := h2 b (by simp); simp at ha
  | a :: _, [], _, _, h1, _ => by obtain ⟨b, hb, -⟩ := h1 a (by simp); simp at hb
  | a :: l, b :: r, hl, hr, h1, h2 => by
    have hl' := List.pairwise_cons.1 hl
    have hr' := List.pairwise_cons.1 hr
    have e : cf a b = 0 := by
      obtain ⟨y, hy, ey⟩ := h1 a (by simp)
      obtain ⟨x, hx, ex⟩ := h2 b (by simp)
      rcases List.mem_cons.1 hy with rfl | hy
      · exact ey
      · rcases List.mem_cons.1 hx with rfl | hx
        · have := h.anti x b; omega
        · have b1 := hr'.1 y hy
          have b2 := hl'.1 x hx
          -- b < y ~ a < x ~ b
          have c1 : cf b a < 0 := h.lt_of_lt_le b1 (by have := h.anti a y; omega)
          have c2 : cf a b < 0 := h.lt_of_lt_le b2 (by have := h.anti b x; omega)
          have := h.anti a b; omega
    refine ⟨e, alike_of h l r hl'.2 hr'.2 (fun x hx => ?_) (fun y hy => ?_)⟩
    · obtain ⟨y, hy, ey⟩ := h1 x (List.mem_cons_of_mem _ hx)
      rcases List.mem_cons.1 hy with rfl | hy
      · exfalso
        have b2 := hl'.1 x hx
        have := h.lt_of_lt_le b2 (show cf x y ≤ 0 by omega)
        omega
      · exact ⟨y, hy, ey⟩
    · obtain ⟨x, hx, ex⟩ := h2 y (List.mem_cons_of_mem _ hy)
      rcases List.mem_cons.1 hx with rfl | hx
      · exfalso
        have b2 := hr'.1 y hy
        have := h.lt_of_lt_le b2 (show cf y x ≤ 0 by omega)
        have := h.anti x b
        omega
      · exact ⟨x, hx, ex⟩
/-- the document's insertion: what stands behind a place, and whether it is in already -/
def ins (cf : Nat → Nat → Int) (i : Nat) : List Nat → Bool → List Nat
  | [], b => if b then [] else [i]
  | o :: r, b => if cf i o < 0 ∧ b = false then i :: o :: ins cf i r true else if cf i o = 0 then o :: ins cf i r true else o :: ins cf i r b
theorem ins_true (i : Nat) : ∀ l : List Nat, ins cf i l true = l
  | [] => rfl
  | o :: r => by
    unfold ins
    rw [if_neg (by simp), ins_true i r]
    split <;> rfl
theorem ins_mem (i : Nat) : ∀ (l : List Nat) (b : Bool) (x : Nat), x ∈ ins cf i l b → x = i ∨ x ∈ l
  | [], b, x, hx => by
    unfold ins at hx
    split at hx
    · simp at hx
    · left; simpa using hx
  | o :: r, b, x, hx => by
    unfold ins at hx
    split at hx
    · rw [ins_true] at hx
      rcases List.mem_cons.1 hx with rfl | hx
      · exact .inl rfl
      · exact .inr hx
    · split at hx
      · rw [ins_true] at hx; exact .inr hx
      · rcases List.mem_cons.1 hx with rfl | hx
        · exact .inr (by simp)
        · rcases ins_mem i r b x hx with h | h
          · exact .inl h
          · exact .inr (List.mem_cons_of_mem _ h)
theorem mem_ins (i : Nat) : ∀ (l : List Nat) (b : Bool) (x : Nat), x ∈ l → x ∈ ins cf i l b
  | [], _, _, h => by simp at h
  | o :: r, b, x, hx => by
    unfold ins
    split
    · rw [ins_true]; exact List.mem_cons_of_mem _ hx
    · split
      · rw [ins_true]; exact hx
      · rcases List.mem_cons.1 hx with rfl | hx
        · simp
        · exact List.mem_cons_of_mem _ (mem_ins i r b x hx)
theorem ins_has (h : Ord cf) (i : Nat) : ∀ l : List Nat, ∃ x ∈ ins cf i l false, cf i x = 0
  | [] => ⟨i, by simp [ins], h.self i⟩
  | o :: r => by
    unfold ins
    split
    · exact ⟨i, by simp, h.self i⟩
    · split
      · rename_i e; exact ⟨o, by simp, e⟩
      · obtain ⟨x, hx, e⟩ := ins_has h i r
        exact ⟨x, List.mem_cons_of_mem _ hx, e⟩
theorem ins_rising (h : Ord cf) (i : Nat) : ∀ l : List Nat, Rising cf l → Rising cf (ins cf i l false)
  | [], _ => by simp [ins, Rising]
  | o :: r, hl => by
    have hl' := List.pairwise_cons.1 hl
    unfold ins
    split
    · rename_i e
      rw [ins_true]
      refine List.pairwise_cons.2 ⟨fun x hx => ?_, hl⟩
      rcases List.mem_cons.1 hx with rfl | hx
      · exact e.1
      · exact h.lt_of_lt_le e.1 (by have := hl'.1 x hx; omega)
    · split
      · rw [ins_true]; exact hl
      · rename_i e1 e2
        refine List.pairwise_cons.2 ⟨fun x hx => ?_, ins_rising h i r hl'.2⟩
        rcases ins_mem i r false x hx with rfl | hx
        · have := h.anti x o
          have : ¬ cf x o < 0 := fun hh => e1 ⟨hh, rfl⟩
          omega
        · exact hl'.1 x hx
theorem ins_length (i : Nat) : ∀ (l : List Nat) (b : Bool), (ins cf i l b).length ≤ l.length + 1
  | [], b => by unfold ins; split <;> simp
  | o :: r, b => by
    unfold ins
    split
    · rw [ins_true]; simp
    · split
      · rw [ins_true]; simp
      · have := ins_length i r b; simp; omega
/-- the document's row of the first n -/
def rowR (cf : Nat → Nat → Int) : Nat → List Nat
  | 0 => []
  | n + 1 => ins cf n (rowR cf n) false
theorem rowR_rising (h : Ord cf) : ∀ n, Rising cf (rowR cf n)
  | 0 => by simp [rowR, Rising]
  | n + 1 => ins_rising h n _ (rowR_rising h n)
theorem rowR_length : ∀ n, (rowR cf n).length ≤ n
  | 0 => by simp [rowR]
  | n + 1 => by
    have h1 := rowR_length n
    have h2 := ins_length (cf := cf) n (rowR cf n) false
    simp only [rowR]
    omega
theorem rowR_lt : ∀ n x, x ∈ rowR cf n → x < n
  | 0, x, hx => by simp [rowR] at hx
  | n + 1, x, hx => by
    rcases ins_mem n _ false x hx with rfl | hx
    · omega
    · have := rowR_lt n x hx; omega
theorem rowR_has (h : Ord cf) : ∀ n i, i < n → ∃ x ∈ rowR cf n, cf i x = 0
  | 0, i, hi => by omega
  | n + 1, i, hi => by
    by_cases e : i = n
    · subst e; exact ins_has h i _
    · obtain ⟨x, hx, e⟩ := rowR_has h n i (by omega)
      exact ⟨x, mem_ins n _ false x hx, e⟩
/-- the program's cut of a sorted row: who differs from the one ahead -/
def cut (cf : Nat → Nat → Int) : Option Nat → List Nat → List Nat
  | _, [] => []
  | none, x :: r => x :: cut cf (some x) r
  | some q, x :: r => if cf q x = 0 then cut cf (some x) r else x :: cut cf (some x) r
theorem cut_mem : ∀ (p : Option Nat) (l : List Nat) (x : Nat), x ∈ cut cf p l → x ∈ l
  | _, [], _, h => by cases ‹Option Nat› <;> simp [cut] at h
  | none, y :: r, x, h => by
    simp only [cut] at h
    rcases List.mem_cons.1 h with rfl | h
    · simp
    · exact List.mem_cons_of_mem _ (cut_mem _ r x h)
  | some q, y :: r, x, h => by
    simp only [cut] at h
    split at h
    · exact List.mem_cons_of_mem _ (cut_mem _ r x h)
    · rcases List.mem_cons.1 h with rfl | h
      · simp
      · exact List.mem_cons_of_mem _ (cut_mem _ r x h)
/-- all that is left lies above the one ahead -/
theorem cut_above (h : Ord cf) : ∀ (l : List Nat) (q : Nat), (q :: l).Pairwise (fun a b => cf a b ≤ 0) → ∀ x ∈ cut cf (some q) l, cf q x < 0
  | [], _, _, x, hx => by simp [cut] at hx
  | y :: r, q, hs, x, hx => by
    have hs' := List.pairwise_cons.1 hs
    have hqy := hs'.1 y (by simp)
    simp only [cut] at hx
    split at hx
    · rename_i e
      have := cut_above h r y hs'.2 x hx
      exact h.lt_of_le_lt hqy this
    · rename_i e
      rcases List.mem_cons.1 hx with rfl | hx
      · omega
      · have := cut_above h r y hs'.2 x hx
        exact h.lt_of_le_lt hqy this
theorem cut_rising (h : Ord cf) : ∀ (l : List Nat) (p : Option Nat), l.Pairwise (fun a b => cf a b ≤ 0) → Rising cf (cut cf p l)
  | [], p, _ => by cases p <;> simp [cut, Rising]
  | y :: r, none, hs => by
    simp only [cut]
    exact List.pairwise_cons.2 ⟨cut_above h r y hs, cut_rising h r _ (List.pairwise_cons.1 hs).2⟩
  | y :: r, some q, hs => by
    simp only [cut]
    split
    · exact cut_rising h r _ (List.pairwise_cons.1 hs).2
    · exact List.pairwise_cons.2 ⟨cut_above h r y hs, cut_rising h r _ (List.pairwise_cons.1 hs).2⟩
theorem cut_has (h : Ord cf) : ∀ (l : List Nat) (p : Option Nat) (x : Nat), x ∈ l → (∃ y ∈ cut cf p l, cf x y = 0) ∨ ∃ q, p = some q ∧ cf x q = 0
  | [], _, _, hx => by simp at hx
  | y :: r, p, x, hx => by
    have tail : x ∈ r → (∃ z ∈ cut cf (some y) r, cf x z = 0) ∨ cf x y = 0 := fun hr => by
      rcases cut_has h r (some y) x hr with h1 | ⟨q, e, e2⟩
      · exact .inl h1
      · cases e; exact .inr e2
    have all : (∃ z ∈ cut cf (some y) r, cf x z = 0) ∨ cf x y = 0 := by
      rcases List.mem_cons.1 hx with rfl | hr
      · exact .inr (h.self _)
      · exact tail hr
    match p with
    | none =>
      simp only [cut]
      rcases all with ⟨z, hz, e⟩ | e
      · exact .inl ⟨z, List.mem_cons_of_mem _ hz, e⟩
      · exact .inl ⟨y, by simp, e⟩
    | some q =>
      simp only [cut]
      split
      · rename_i eq
        rcases all with ⟨z, hz, e⟩ | e
        · exact .inl ⟨z, hz, e⟩
        · refine .inr ⟨q, rfl, ?_⟩
          have := (h.eq_left q e).2
          have := h.anti q y
          omega
      · rcases all with ⟨z, hz, e⟩ | e
        · exact .inl ⟨z, List.mem_cons_of_mem _ hz, e⟩
        · exact .inl ⟨y, by simp, e⟩
/-- both rows of n spots are alike -/
theorem rows_alike (h : Ord cf) {n : Nat} {s : List Nat} (hs : s.Pairwise (fun a b => cf a b ≤ 0)) (hlt : ∀ x ∈ s, x < n) (hall : ∀ i, i < n → i ∈ s) : Alike cf (cut cf none s) (rowR cf n) := by
  refine alike_of h _ _ (cut_rising h s none hs) (rowR_rising h n) (fun a ha => ?_) (fun b hb => ?_)
  · exact rowR_has h n a (hlt a (cut_mem none s a ha))
  · rcases cut_has h s none b (hall b (rowR_lt n b hb)) with h1 | ⟨q, e, -⟩
    · exact h1
    · cases e
end Go.Proofs.YtokaapljlpngdaaGreatDoor.rows
/- Rows of spots: a spot's words by name, a row of spots that is read; the closure that compares two places. -/

namespace Go.Proofs.YtokaapljlpngdaaGreatDoor
open Go.RowKit Num
open Go.Sort (grow)

/-- a spot as it lies in memory -/
structure Sp where
  n1 : Bool
  a1 : List Nat
  A1 : Option Addr
  c1 : Nat
  d1 : List Nat
  D1 : Option Addr
  e1 : Nat
  n2 : Bool
  a2 : List Nat
  A2 : Option Addr
  c2 : Nat
  d2 : List Nat
  D2 : Option Addr
  e2 : Nat
def Sp.cells (s : Sp) : List Value := [.bool s.n1, .slice s.A1 s.a1.length s.c1, .slice s.D1 s.d1.length s.e1, .bool s.n2, .slice s.A2 s.a2.length s.c2, .slice s.D2 s.d2.length s.e2]
/-- its words are read -/
def Sp.Ok (w : World) (s : Sp) : Prop := (Rd w (fun g => g < w.heap.size) .u32 s.A1 s.a1 ∧ Rd w (fun g => g < w.heap.size) .u32 s.D1 s.d1) ∧ (Rd w (fun g => g < w.heap.size) .u32 s.A2 s.a2 ∧ Rd w (fun g => g < w.heap.size) .u32 s.D2 s.d2)
/-- of at most m words each -/
def Sp.Sh (m : Nat) (s : Sp) : Prop := SI (upN s.n1 s.a1 s.d1) (loD s.d1) m s.n1 s.a1 s.c1 s.d1 s.e1 ∧ SI (upN s.n2 s.a2 s.d2) (loD s.d2) m s.n2 s.a2 s.c2 s.d2 s.e2
theorem Sp.Ok.on {w w' : World} {s : Sp} (h : s.Ok w) (b : Below w.heap.size w w') : s.Ok w' := ⟨⟨h.1.1.on b, h.1.2.on b⟩, h.2.1.on b, h.2.2.on b⟩
/-- how two stand -/
def cmpS (s t : Sp) : Int := lex (sgn (upN s.n1 s.a1 s.d1 * (loD t.d1 : Int) - upN t.n1 t.a1 t.d1 * (loD s.d1 : Int))) (sgn (upN s.n2 s.a2 s.d2 * (loD t.d2 : Int) - upN t.n2 t.a2 t.d2 * (loD s.d2 : Int)))
/-- a row of spots that is read -/
def RdS (w : World) (A : Option Addr) (L : List Sp) : Prop := 0 < L.length → ∃ b o, A = some ⟨b, o, none⟩ ∧ b < w.heap.size ∧ ∀ (i : Nat) (h : i < L.length) (j : Nat) (u : Value), (L[i].cells)[j]? = some u → w.cell? ⟨b, o + i * 6 + j, none⟩ = some u
theorem RdS.on {w w' : World} {A : Option Addr} {L : List Sp} (h : RdS w A L) (b : Below w.heap.size w w') : RdS w' A L := fun hn => by
  obtain ⟨g, o, e, hg, hc⟩ := h hn
  exact ⟨g, o, e, Nat.lt_of_lt_of_le hg b.size, fun i hi j u hu => (b.cell (p := ⟨g, o + i * 6 + j, none⟩) hg).trans (hc i hi j u hu)⟩

set_option maxRecDepth 100000 in
set_option maxHeartbeats 3200000 in
/-- the closure that compares two places -/
theorem spot_Row1 (L : List Sp) (A : Option Addr) (cap gl m : Nat) (V : World) (hm1 : 1 ≤ m) (hm : m ≤ 4194304) (hbox : V.cell? ⟨gl, 0, none⟩ = some (.slice A L.length cap)) (hl : RdS V A L) (hok : ∀ s ∈ L, s.Ok V) (hsh : ∀ s ∈ L, s.Sh m) (hlen : L.length ≤ 1073741824) (i j : Nat) (hi : i < L.length) (hj : j < L.length) :
    Calls Tryz.prog 9 #[.int .i64 i, .int .i64 j, .pointer (some ⟨gl, 0, none⟩)] V fun e w' => e = .returned (.int .i64 (cmpS L[i] L[j])) ∧ Below V.heap.size V w' := by
  obtain ⟨b, o, rfl, hb, hc⟩ := hl (by omega)
  have o1 := hok _ (List.getElem_mem hi)
  have o2 := hok _ (List.getElem_mem hj)
  have h1 := hsh _ (List.getElem_mem hi)
  have h2 := hsh _ (List.getElem_mem hj)
  have k1 := hc i hi
  have k2 := hc j hj
  generalize L[i] = s at o1 h1 k1 ⊢
  generalize L[j] = t at o2 h2 k2 ⊢
  obtain ⟨n1, a1, A1, c1, d1, D1, e1, n2, a2, A2, c2, d2, D2, e2⟩ := s
  obtain ⟨n3, a3, A3, c3, d3, D3, e3, n4, a4, A4, c4, d4, D4, e4⟩ := t
  have x0 := cell_regrown (k1 0 _ rfl)
  have x1 := cell_regrown (k1 1 _ rfl)
  have x2 := cell_regrown (k1 2 _ rfl)
  have x3 := cell_regrown (k1 3 _ rfl)
  have x4 := cell_regrown (k1 4 _ rfl)
  have x5 := cell_regrown (k1 5 _ rfl)
  have y0 := cell_regrown (k2 0 _ rfl)
  have y1 := cell_regrown (k2 1 _ rfl)
  have y2 := cell_regrown (k2 2 _ rfl)
  have y3 := cell_regrown (k2 3 _ rfl)
  have y4 := cell_regrown (k2 4 _ rfl)
  have y5 := cell_regrown (k2 5 _ rfl)
  have z0 := cell_regrown hbox
  simp only [Nat.add_zero] at x0 y0
  have cX := fun (U : World) (hU : Below V.heap.size V U) => fv_SCmp hm1 hm (loD_pos d1) (loD_pos d2) (loD_pos d3) (loD_pos d4) n1 n2 n3 n4 a1 d1 a2 d2 a3 d3 a4 d4 A1 D1 A2 D2 A3 D3 A4 D4 c1 e1 c2 e2 c3 e3 c4 e4 U h1.1.toV h1.2.toV h2.1.toV h2.2.toV (o1.1.1.on hU) (o1.1.2.on hU) (o1.2.1.on hU) (o1.2.2.on hU) (o2.1.1.on hU) (o2.1.2.on hU) (o2.2.1.on hU) (o2.2.2.on hU)
  have CX := quiet_of cX
  have hz : cmpS ⟨n1, a1, A1, c1, d1, D1, e1, n2, a2, A2, c2, d2, D2, e2⟩ ⟨n3, a3, A3, c3, d3, D3, e3, n4, a4, A4, c4, d4, D4, e4⟩ = lex (sgn (upN n1 a1 d1 * (loD d3 : Int) - upN n3 a3 d3 * (loD d1 : Int))) (sgn (upN n2 a2 d2 * (loD d4 : Int) - upN n4 a4 d4 * (loD d2 : Int))) := rfl
  rw [hz]
  generalize lex (sgn (upN n1 a1 d1 * (loD d3 : Int) - upN n3 a3 d3 * (loD d1 : Int))) (sgn (upN n2 a2 d2 * (loD d4 : Int) - upN n4 a4 d4 * (loD d2 : Int))) = z at CX ⊢
  clear hz cX hc k1 k2 o1 o2 h1 h2 hok hsh hm1 hm hb
  go_enter Tryz.func9, Tryz.ntmps9
  go_wp2_with fail
  refine wp_region_quiet_below (by kernel_rfl) (by kernel_rfl) ?_
  quiet_step (fail)
  quiet_step (fail)
  quiet_step (fail)
  quiet_step (fail)
  quiet_step (fail)
  quiet_step (fail)
  quiet_step (fail)
  quiet_step (fail)
  quiet_step (with_reducible exact CX _ _)
  quiet_step (fail)
  refine wpQuiet_nil ?_
  intro _ hw'
  obtain ⟨⟨dq, osq⟩, hw''⟩ := hw'
  subst hw''
  go_wp2_with fail
  go_ret
  exact ⟨rfl, below_regrown V dq osq⟩
end Go.Proofs.YtokaapljlpngdaaGreatDoor
/- Rows of spots: what the document's own Row answers. -/

namespace Go.Proofs.YtokaapljlpngdaaGreatDoor
open Go.RowKit Num rows
open Go.Sort (grow)

instance : Inhabited Sp := ⟨⟨false, [], none, 0, [], none, 0, false, [], none, 0, [], none, 0⟩⟩
def flat (xs : List Sp) : List Value := xs.flatMap Sp.cells
theorem flat_snoc (xs : List Sp) (x : Sp) : flat (xs ++ [x]) = flat xs ++ x.cells := by simp [flat]
theorem cells_len (s : Sp) : s.cells.length = 6 := rfl
theorem cells_noint (s : Sp) : NoInt s.cells := fun v hv k n e => by subst e; simp [Sp.cells] at hv
theorem cells_one (s : Sp) : ∀ u ∈ s.cells, u.oneCell' = true := fun u hu => by
  simp only [Sp.cells, List.mem_cons, List.not_mem_nil, or_false] at hu
  rcases hu with rfl | rfl | rfl | rfl | rfl | rfl <;> rfl
theorem flat_get : ∀ (xs : List Sp) (k : Nat) (h : k < xs.length) (j : Nat) (u : Value), j < 6 → (xs[k].cells)[j]? = some u → (flat xs)[k * 6 + j]? = some u
  | x :: xs, 0, _, j, u, hj, hu => by
    simp only [flat, List.flatMap_cons, Nat.zero_mul, Nat.zero_add]
    rw [List.getElem?_append_left (by rw [cells_len]; exact hj)]
    exact hu
  | x :: xs, k + 1, h, j, u, hj, hu => by
    simp only [flat, List.flatMap_cons]
    rw [List.getElem?_append_right (by rw [cells_len]; omega), cells_len, show (k + 1) * 6 + j - 6 = k * 6 + j by omega]
    exact flat_get xs k (by simpa using h) j u hj (by simpa using hu)
/-- a reduced spot of the class of number i -/
def Is (L : List Sp) (M i : Nat) (s : Sp) : Prop := SG (upN (L.getD i default).n1 (L.getD i default).a1 (L.getD i default).d1) (loD (L.getD i default).d1) M s.n1 s.a1 s.c1 s.d1 s.e1 ∧ SG (upN (L.getD i default).n2 (L.getD i default).a2 (L.getD i default).d2) (loD (L.getD i default).d2) M s.n2 s.a2 s.c2 s.d2 s.e2
def Fits (L : List Sp) (M : Nat) (w : World) (O : List Nat) (xs : List Sp) : Prop := O.length = xs.length ∧ ∀ (k : Nat) (h : k < O.length) (h' : k < xs.length), Is L M O[k] xs[k] ∧ xs[k].Ok w
theorem Fits.nil (L : List Sp) (M : Nat) (w : World) : Fits L M w [] [] := ⟨rfl, fun k h => by simp at h⟩
theorem Fits.snoc {L : List Sp} {M : Nat} {w : World} {O : List Nat} {xs : List Sp} (h : Fits L M w O xs) {i : Nat} {x : Sp} (hi : Is L M i x) (hx : x.Ok w) : Fits L M w (O ++ [i]) (xs ++ [x]) := by
  refine ⟨by simp [h.1], fun k h1 h2 => ?_⟩
  rcases Nat.lt_or_ge k O.length with hk | hk
  · rw [List.getElem_append_left hk, List.getElem_append_left (by rw [← h.1]; exact hk)]
    exact h.2 k hk (by rw [← h.1]; exact hk)
  · have hk2 : k = O.length := by simp at h1; omega
    subst hk2
    rw [List.getElem_append_right (Nat.le_refl _)]
    have : (xs ++ [x])[O.length] = x := by
      rw [List.getElem_append_right (by rw [h.1]; exact Nat.le_refl _)]
      simp [h.1]
    rw [this]
    simpa using ⟨hi, hx⟩
theorem Fits.imp {L : List Sp} {M : Nat} {w w' : World} {O : List Nat} {xs : List Sp} (h : Fits L M w O xs) (hw : ∀ s : Sp, s.Ok w → s.Ok w') : Fits L M w' O xs := ⟨h.1, fun k h1 h2 => ⟨(h.2 k h1 h2).1, hw _ (h.2 k h1 h2).2⟩⟩
def cfL (L : List Sp) (i j : Nat) : Int := cmpS (L.getD i default) (L.getD j default)
theorem OwnS.ok {w w' : World} {base : Nat} {v : Value} {n : Nat} {xs : List Value} (h : OwnS w base v n xs) (hg : w.grownBy w' v.ownBlock) {s : Sp} (k : s.Ok w) : s.Ok w' := ⟨⟨h.rd hg k.1.1, h.rd hg k.1.2⟩, h.rd hg k.2.1, h.rd hg k.2.2⟩
/-- another row stays when this one grows -/
theorem OwnS.other {w w' : World} {base B : Nat} {v : Value} {n : Nat} {xs : List Value} {row : Option Nat} (h : OwnS w base v n xs) (hlt : ∀ k, v.ownBlock = some k → k < B) (hrow : ∀ k, row = some k → B ≤ k) (hg : w.grownBy w' row) : OwnS w' base v n xs := by
  refine ⟨h.1, h.2.1, ?_⟩
  rcases h.2.2 with hn | ⟨g, cap, cur, rfl, hbg, hgg, rest⟩
  · exact .inl hn
  · refine .inr ⟨g, cap, cur, rfl, hbg, ?_, rest⟩
    rw [hg.block g (Array.getElem?_eq_some_iff.1 hgg).1 (fun e => by
      have h1 := hlt g (by simp [Value.ownBlock])
      have h2 := hrow g e.symm
      omega)]
    exact hgg
/-- one spot, reduced -/
theorem ref5_cleanI (L : List Sp) (m i : Nat) (hm : m + 1 ≤ 4194304) (s : Sp) (hs : L.getD i default = s) (hsh : s.Sh m) (V : World) (hok : s.Ok V) :
    Calls Tryz.prog 14 #[.agg #[.bool s.n1, .slice s.A1 s.a1.length s.c1, .slice s.D1 s.d1.length s.e1, .bool s.n2, .slice s.A2 s.a2.length s.c2, .slice s.D2 s.d2.length s.e2]] V (fun e w' => ∃ x : Sp, e = .returned (.agg #[.bool x.n1, .slice x.A1 x.a1.length x.c1, .slice x.D1 x.d1.length x.e1, .bool x.n2, .slice x.A2 x.a2.length x.c2, .slice x.D2 x.d2.length x.e2]) ∧ Is L (m + 1) i x ∧ x.Ok w' ∧ Below V.heap.size V w') := by
  have b1 : (upN s.n1 s.a1 s.d1).natAbs < 4294967296 ^ m := Nat.lt_of_lt_of_le (up_lt hsh.1.2.2.1) (Nat.pow_le_pow_right (by omega) hsh.1.2.2.2.2.1)
  have b2 : (upN s.n2 s.a2 s.d2).natAbs < 4294967296 ^ m := Nat.lt_of_lt_of_le (up_lt hsh.2.2.2.1) (Nat.pow_le_pow_right (by omega) hsh.2.2.2.2.2.1)
  have l1 : loD s.d1 ≤ 4294967296 ^ m := Nat.le_trans (loD_le hsh.1.2.2.2.1) (Nat.pow_le_pow_right (by omega) hsh.1.2.2.2.2.2.1)
  have l2 : loD s.d2 ≤ 4294967296 ^ m := Nat.le_trans (loD_le hsh.2.2.2.2.1) (Nat.pow_le_pow_right (by omega) hsh.2.2.2.2.2.2.1)
  have c1 : Fn1 24 (SV (upN s.n1 s.a1 s.d1) (loD s.d1) m) (SG (upN s.n1 s.a1 s.d1) (loD s.d1) (m + 1)) := (rv_Reduce _ _ m (loD_pos _) (by omega)).imp (fun _ _ _ _ _ k => k) fun _ _ _ _ _ k => k.toG (Nat.lt_of_lt_of_le b1 (Nat.pow_le_pow_right (by omega) (by omega))) (lt_of_le_pow l1 (by omega))
  have c2 : Fn1 24 (SV (upN s.n2 s.a2 s.d2) (loD s.d2) m) (SG (upN s.n2 s.a2 s.d2) (loD s.d2) (m + 1)) := (rv_Reduce _ _ m (loD_pos _) (by omega)).imp (fun _ _ _ _ _ k => k) fun _ _ _ _ _ k => k.toG (Nat.lt_of_lt_of_le b2 (Nat.pow_le_pow_right (by omega) (by omega))) (lt_of_le_pow l2 (by omega))
  refine (ref5_clean _ _ _ _ c1 c2 s.n1 s.n2 s.a1 s.d1 s.a2 s.d2 s.A1 s.D1 s.A2 s.D2 s.c1 s.e1 s.c2 s.e2 V hsh.1.toV hsh.2.toV hok.1.1 hok.1.2 hok.2.1 hok.2.2).mono ?_
  rintro e w' ⟨n1, a1, A1, c1, d1, D1, e1, n2, a2, A2, c2, d2, D2, e2, rfl, ⟨h1, h2⟩, h3, h4, h5⟩
  exact ⟨⟨n1, a1, A1, c1, d1, D1, e1, n2, a2, A2, c2, d2, D2, e2⟩, rfl, ⟨by rw [hs]; exact h1, by rw [hs]; exact h2⟩, ⟨h3, h4⟩, h5⟩
/-- the cells of a new block that holds one spot -/
theorem one_spot (w : World) (x : Sp) : ∀ j u, x.cells[j]? = some u → (w.alloc (.cells #[.bool x.n1, .slice x.A1 x.a1.length x.c1, .slice x.D1 x.d1.length x.e1, .bool x.n2, .slice x.A2 x.a2.length x.c2, .slice x.D2 x.d2.length x.e2] 31)).cell? ((⟨w.heap.size, 0, none⟩ : Addr).add j) = some u := by
  intro j u hu
  have hadd : (⟨w.heap.size, 0, none⟩ : Addr).add j = ⟨w.heap.size, j, none⟩ := by unfold Addr.add; split <;> simp_all
  rw [hadd]
  exact (Blk.new w 31 x.cells).cell j hu
end Go.Proofs.YtokaapljlpngdaaGreatDoor
/- A row of spots made anew, with room and none in it. -/

namespace Go.Proofs.YtokaapljlpngdaaGreatDoor
open Go.RowKit Num

theorem madeCells_noint {z : Array Value} (hp : 0 < z.size) (hz : NoInt z.toList) (n : Nat) : NoInt (madeCells z n).toList := by
  intro v hv
  unfold madeCells at hv
  simp only [Array.toList_map, List.mem_map] at hv
  obtain ⟨i, -, rfl⟩ := hv
  have hm := Nat.mod_lt i hp
  rw [getElem!_pos z (i % z.size) hm]
  exact hz _ (Array.mem_toList_iff.2 (Array.getElem_mem hm))
theorem make_spots (n : Nat) (hn : n ≤ 1073741824) (u : World) (base : Nat) (hb : base ≤ u.heap.size) :
    ∃ u', (Instr.makeSlice 22 (.int .i64 0) (.int .i64 (n : Int))).run Tryz.prog u = .ok (.slice (some ⟨u.heap.size, 0, none⟩) 0 n) u' ∧ OwnS u' base (.slice (some ⟨u.heap.size, 0, none⟩) 0 n) 0 [] ∧ u.grownBy u' none ∧ u'.heap.size = u.heap.size + 1 := by
  obtain ⟨i, hi, hz0, hz1, hz2⟩ := info_parts info_spot
  have hbyte : (i.bytes : Int) * (n : Int) ≤ 281474976710656 := by
    have h : i.bytes * n ≤ 112 * 1073741824 := Nat.mul_le_mul (by omega) hn
    have h' : ((i.bytes * n : Nat) : Int) ≤ 281474976710656 := by omega
    rwa [Int.natCast_mul] at h'
  have h := run_make (P := Tryz.prog) u 22 31 i _ Tryz.underlying22 hi hz0 .i64 .i64 0 n (by omega) (by omega) hbyte (by omega)
  simp only [Int.toNat_zero, Int.toNat_natCast] at h
  obtain ⟨Z, hZ⟩ : ∃ Z, Z = (Value.agg #[.bool false, .slice none 0 0, .slice none 0 0, .bool false, .slice none 0 0, .slice none 0 0]).cells := ⟨_, rfl⟩
  rw [← hZ] at h
  refine ⟨_, h, ⟨rfl, fun v hv => by simp at hv, .inr ⟨u.heap.size, n, madeCells Z (n * i.size), rfl, hb, ?_, Nat.zero_le _, by simp [maxLen]; omega, ?_, by simp, ?_⟩⟩, World.grownBy_alloc u _ none, Array.size_push _⟩
  · exact Array.getElem?_push_size
  · rw [size_madeCells, hz1]
  · refine madeCells_noint (by rw [hZ]; decide) ?_ _
    rw [hZ]
    intro v hv k m e
    subst e
    simp [Value.cells] at hv
end Go.Proofs.YtokaapljlpngdaaGreatDoor
/- How often the tape was asked never falls: for every step of the machine. -/

namespace Go.Proofs.YtokaapljlpngdaaGreatDoor.drw
open Go

/-- what a computation leaves was asked no less often -/
def Res (n : Nat) {α : Type} : Result α → Prop
  | .ok _ w => n ≤ w.drawn
  | .halt _ w => n ≤ w.drawn
def GS (n : Nat) : GStep → Prop
  | .ended _ _ _ => True
  | .go _ w _ => n ≤ w.drawn
  | .comm _ _ _ _ w _ => n ≤ w.drawn
  | .spawn _ _ w _ => n ≤ w.drawn
  | .count _ w _ => n ≤ w.drawn
  | .timer _ _ w _ => n ≤ w.drawn
  | .alone _ _ w _ => n ≤ w.drawn
  | .newcoro _ _ _ w _ => n ≤ w.drawn
  | .coroswitch _ _ _ w _ => n ≤ w.drawn
  | .collect _ w _ => n ≤ w.drawn
  | .watch _ w _ => n ≤ w.drawn
def St (n : Nat) : Stepped → Prop
  | .next m => n ≤ m.world.drawn
  | .ended _ _ => True
def Mv (n : Nat) : Move → Prop
  | .goroutine m _ => n ≤ m.world.drawn
  | .machine s _ => St n s

theorem setCell_drawn (w : World) (a : Addr) (v : Value) : (w.setCell a v).drawn = w.drawn := rfl
theorem freeze_drawn (w : World) (a : Addr) (n : Nat) : (w.freeze a n).drawn = w.drawn := by
  unfold World.freeze
  split <;> rfl
theorem ask_drawn {α : Type} {n : Nat} (k : Ask α) : ∀ w : World, n ≤ w.drawn → n ≤ (w.ask k).2.drawn := by
  induction k with
  | done a => intro w h; exact h
  | ask what range k ih =>
    intro w h
    unfold World.ask
    dsimp only
    split
    · exact ih _ _ h
    · exact ih _ _ (Nat.le_succ_of_le h)
theorem sys_drawn {n : Nat} (c : Sys) (w : World) (h : n ≤ w.drawn) : n ≤ (w.sys c).2.drawn := by
  have h1 := ask_drawn (n := n) (Kernel.perform c w.os) w h
  unfold World.sys
  split
  · exact h
  · rename_i r os w' _ e
    rw [e] at h1
    exact h1
theorem viewStore_drawn {p : Program} {w : World} {at_ : Addr} {u : TypeId} {k : Addr} {v : Value} {b : Bool} {r : World × List Addr} (h : w.viewStore p at_ u k v b = .ok r) : r.1.drawn = w.drawn := by
  unfold World.viewStore at h
  simp only [bind, Except.bind, pure, Except.pure] at h
  repeat (first | (split at h; first | cases h | skip) | cases h)
  all_goals first | rfl | simp_all
theorem farStore_drawn {p : Program} {w : World} {a : Addr} {v : Value} {b : Bool} {r : World × List Addr} (h : w.farStore p a v b = .ok r) : r.1.drawn = w.drawn := by
  unfold World.farStore at h
  split at h
  · split at h
    · rename_i e
      cases h
      exact viewStore_drawn e
    · cases h
  · cases h
theorem run_drawn {α : Type} (p : Program) {n : Nat} (s : Sem α) : ∀ w : World, n ≤ w.drawn → Res n (s.run p w) := by
  induction s with
  | pure a => intro w h; exact h
  | load m a k ih =>
    intro w h; unfold Sem.run
    split
    · exact ih _ _ h
    · split
      · exact ih _ _ h
      · exact h
  | store m a v k ih =>
    intro w h
    have key : ∀ v : Value, Res n (match w.cell? a with
        | some _ => if w.frozen? a then .halt (.unsupported (.unsafePointer "a write to bytes that a string shares")) w else k.run p (w.setCell a v)
        | none => match w.farStore p a v (m == .atomic) with
          | .ok (w, _) => k.run p w
          | .error h => .halt h w) := fun v => by
      split
      · split
        · exact h
        · exact ih _ h
      · split
        · rename_i e
          exact ih _ (by have := farStore_drawn e; simp only at this; omega)
        · exact h
    cases v <;> first | exact key _ | exact h
  | new o k ih => intro w h; unfold Sem.run; exact ih _ _ h
  | shape r k ih => intro w h; unfold Sem.run; exact ih _ _ h
  | freeze a m k ih => intro w h; unfold Sem.run; exact ih _ (by rw [freeze_drawn]; exact h)
  | frozen a k ih => intro w h; unfold Sem.run; exact ih _ _ h
  | getObj r k ih =>
    intro w h; unfold Sem.run
    split
    · exact h
    · exact ih _ _ h
    · exact h
  | setObj r o k ih =>
    intro w h; unfold Sem.run
    split
    · exact h
    · exact ih _ h
    · exact h
  | choose q k ih =>
    intro w h; unfold Sem.run
    split
    · exact ih _ _ h
    · exact ih _ _ (Nat.le_succ_of_le h)
  | sys c k ih => intro w h; unfold Sem.run; exact ih _ _ (sys_drawn c w h)
  | program k ih => intro w h; unfold Sem.run; exact ih _ _ h
  | mark m k ih => intro w h; unfold Sem.run; exact ih _ h
  | halt h' => intro w h; exact h
theorem runT_drawn {α : Type} (p : Program) {n : Nat} (s : Sem α) : ∀ (w : World) (es : Array Event), n ≤ w.drawn → Res n (s.runT p w es).1 := by
  induction s with
  | pure a => intro w es h; exact h
  | load m a k ih =>
    intro w es h; unfold Sem.runT
    split
    · exact ih _ _ _ h
    · split
      · exact ih _ _ _ h
      · exact h
  | store m a v k ih =>
    intro w es h
    have key : ∀ v : Value, Res n (match w.cell? a with
        | some _ => if w.frozen? a then ((.halt (.unsupported (.unsafePointer "a write to bytes that a string shares")) w, es) : Result _ × Array Event) else k.runT p (w.setCell a v) (es.push (Event.mk (Loc.cell a) true (m == Mode.atomic)))
        | none => match w.farStore p a v (m == Mode.atomic) with
          | .ok (w, touched) => k.runT p w (es ++ touched.toArray.map (fun x => Event.mk (Loc.cell x) true (m == Mode.atomic)))
          | .error h => (.halt h w, es)).1 := fun v => by
      split
      · split
        · exact h
        · exact ih _ _ h
      · split
        · rename_i e
          exact ih _ _ (by have := farStore_drawn e; simp only at this; omega)
        · exact h
    cases v <;> first | exact key _ | exact h
  | new o k ih => intro w es h; unfold Sem.runT; exact ih _ _ _ h
  | shape r k ih => intro w es h; unfold Sem.runT; exact ih _ _ _ h
  | freeze a m k ih => intro w es h; unfold Sem.runT; exact ih _ _ (by rw [freeze_drawn]; exact h)
  | frozen a k ih => intro w es h; unfold Sem.runT; exact ih _ _ _ h
  | getObj r k ih =>
    intro w es h; unfold Sem.runT
    split
    · exact h
    · exact ih _ _ _ h
    · exact h
  | setObj r o k ih =>
    intro w es h; unfold Sem.runT
    split
    · exact h
    · exact ih _ _ h
    · exact h
  | choose q k ih =>
    intro w es h; unfold Sem.runT
    split
    · exact ih _ _ _ h
    · exact ih _ _ _ (Nat.le_succ_of_le h)
  | sys c k ih => intro w es h; unfold Sem.runT; exact ih _ _ _ (sys_drawn c w h)
  | program k ih => intro w es h; unfold Sem.runT; exact ih _ _ _ h
  | mark m k ih => intro w es h; unfold Sem.runT; exact ih _ _ h
  | halt h' => intro w es h; exact h

theorem okR {α : Type} {p : Program} {n : Nat} {s : Sem α} {w w' : World} {v : α} (e : s.run p w = .ok v w') (h : n ≤ w.drawn) : n ≤ w'.drawn := by
  have h' := run_drawn p s w h
  rw [e] at h'
  exact h'
theorem haltR {α : Type} {p : Program} {n : Nat} {s : Sem α} {w w' : World} {v : Halt} (e : s.run p w = .halt v w') (h : n ≤ w.drawn) : n ≤ w'.drawn := by
  have h' := run_drawn p s w h
  rw [e] at h'
  exact h'
theorem okT {α : Type} {p : Program} {n : Nat} {s : Sem α} {w w' : World} {v : α} {es es' : Array Event} (e : s.runT p w es = (.ok v w', es')) (h : n ≤ w.drawn) : n ≤ w'.drawn := by
  have h' := runT_drawn p s w es h
  rw [e] at h'
  exact h'
theorem haltT {α : Type} {p : Program} {n : Nat} {s : Sem α} {w w' : World} {v : Halt} {es es' : Array Event} (e : s.runT p w es = (.halt v w', es')) (h : n ≤ w.drawn) : n ≤ w'.drawn := by
  have h' := runT_drawn p s w es h
  rw [e] at h'
  exact h'
theorem okF {α : Type} {p : Program} {n : Nat} {s : Sem α} {w w' : World} {v : α} {es : Array Event} (e : (s.runT p w es).fst = .ok v w') (h : n ≤ w.drawn) : n ≤ w'.drawn := by
  have h' := runT_drawn p s w es h
  rw [e] at h'
  exact h'
theorem haltF {α : Type} {p : Program} {n : Nat} {s : Sem α} {w w' : World} {v : Halt} {es : Array Event} (e : (s.runT p w es).fst = .halt v w') (h : n ≤ w.drawn) : n ≤ w'.drawn := by
  have h' := runT_drawn p s w es h
  rw [e] at h'
  exact h'
theorem ite_late {n : Nat} {c : Prop} [Decidable c] {a b : GStep} (ha : GS n a) (hb : GS n b) : GS n (if c then a else b) := by split <;> assumption
theorem after_iff {n : Nat} {es : Array Event} {g : GStep} : GS n (GStep.after es g) ↔ GS n g := by cases g <;> exact Iff.rfl
theorem endWith_late {n : Nat} (w : World) (fd : Nat) (t : ByteArray) (o : Outcome) : GS n (endWith w fd t o) := by
  unfold endWith
  dsimp only
  split
  · split <;> exact trivial
  · exact trivial
  · exact trivial
theorem dieOf_late {n : Nat} {fr : Frame} {a : List ByteArray} {m : String} {b : Bool} {w : World} (h : n ≤ w.drawn) : GS n (dieOf fr a m b w) := h
theorem endThrow_late {n : Nat} {fr : Frame} {m : String} {w : World} (h : n ≤ w.drawn) : GS n (endThrow fr m w) := h
theorem endPrinting_late {n : Nat} {p : Program} {fr : Frame} {v : Value} {w : World} (h : n ≤ w.drawn) : GS n (endPrinting p fr v w) := by
  unfold endPrinting
  dsimp only
  split
  · exact endThrow_late h
  · exact trivial
theorem endFatal_late {n : Nat} {p : Program} {fr : Frame} {cs : List Frame} {d : Option Dying} {m : String} {w : World} (h : n ≤ w.drawn) : GS n (endFatal p fr cs d m w) := by
  unfold endFatal
  dsimp only
  split
  · rename_i e
    have h' := (by first | exact okR e h | exact haltR e h | exact okT e h | exact haltT e h | exact okF e h | exact haltF e h)
    exact dieOf_late h'
  · exact trivial
  · exact trivial
theorem writeOn_late {n : Nat} {p : Program} {fr : Frame} {d : Dying} {f : Fatal} {w : World} (h : n ≤ w.drawn) : GS n (writeOn p fr d f w) := by
  unfold writeOn
  dsimp only
  split
  · exact trivial
  · split
    · rename_i e
      have h' := (by first | exact okR e h | exact haltR e h | exact okT e h | exact haltT e h | exact okF e h | exact haltF e h)
      exact h'
    · rename_i e
      have h' := (by first | exact okR e h | exact haltR e h | exact okT e h | exact haltT e h | exact okF e h | exact haltF e h)
      exact h'
    · exact trivial
    · exact trivial
theorem die_late {n : Nat} {p : Program} {fr : Frame} {d : Dying} {w : World} (h : n ≤ w.drawn) : GS n (die p fr d w) := by
  unfold die
  split
  · exact writeOn_late h
  · split
    · split
      · exact h
      · exact endWith_late _ _ _ _
    · dsimp only
      split
      · exact h
      · split
        · rename_i e
          have h' := (by first | exact okR e h | exact haltR e h | exact okT e h | exact haltT e h | exact okF e h | exact haltF e h)
          exact h'
        · exact trivial
      · rw [after_iff]
        split
        · rename_i e
          have h' := (by first | exact okR e h | exact haltR e h | exact okT e h | exact haltT e h | exact okF e h | exact haltF e h)
          exact h'
        · rename_i e
          have h' := (by first | exact okR e h | exact haltR e h | exact okT e h | exact haltT e h | exact okF e h | exact haltF e h)
          exact h'
        · exact trivial
        · rename_i e
          have h' := (by first | exact okR e h | exact haltR e h | exact okT e h | exact haltT e h | exact okF e h | exact haltF e h)
          exact endPrinting_late h'
        · exact trivial
      · exact trivial
theorem doReturn_late {n : Nat} {p : Program} {main : Bool} {fr : Frame} {cs : List Frame} {d : Option Dying} {v : Value} {w : World} (h : n ≤ w.drawn) : GS n (doReturn p main fr cs d v w) := by
  unfold doReturn
  split
  · split <;> exact h
  · split
    · exact h
    · exact trivial
    · split
      · exact h
      · split
        · exact h
        · exact trivial
theorem callDeferred_late {n : Nat} {p : Program} {fr : Frame} {cs : List Frame} {dy : Option Dying} {d : Deferred} {w : World} (h : n ≤ w.drawn) : GS n (callDeferred p fr cs dy d w) := by
  unfold callDeferred
  refine ite_late trivial ?_
  · have h' := runT_drawn p (invoke d.target d.args) w #[] h
    revert h'
    generalize (invoke d.target d.args).runT p w #[] = x
    obtain ⟨r, es⟩ := x
    intro h'
    dsimp only at h' ⊢
    rw [after_iff]
    split
    all_goals first
      | exact h'
      | exact trivial
      | exact endFatal_late h'
      | exact endThrow_late h'
      | (split <;> exact h')
theorem unwind_late {n : Nat} {p : Program} {main : Bool} {fr : Frame} {cs : List Frame} {dy : Option Dying} {w : World} (h : n ≤ w.drawn) : GS n (unwind p main fr cs dy w) := by
  unfold unwind
  split
  · rename_i block _ _ _
    dsimp only
    rw [after_iff]
    split
    · rename_i e
      have h' := (by first | exact okR e h | exact haltR e h | exact okT e h | exact haltT e h | exact okF e h | exact haltF e h)
      exact h'
    · exact trivial
  · exact callDeferred_late h
  · split
    · exact trivial
    · split
      · exact trivial
      · split
        · exact h
        · split
          · split
            · exact h
            · split
              · rename_i e
                have h' := (by first | exact okR e h | exact haltR e h | exact okT e h | exact haltT e h | exact okF e h | exact haltF e h)
                exact h'
              · exact trivial
              · exact trivial
          · split
            · exact endPrinting_late h
            · exact trivial
    · split
      · exact doReturn_late h
      · dsimp only
        rw [after_iff]
        split
        · rename_i e
          have h' := (by first | exact okR e h | exact haltR e h | exact okT e h | exact haltT e h | exact okF e h | exact haltF e h)
          exact doReturn_late h'
        · exact trivial
        · exact trivial
theorem early_late {n : Nat} {p : Program} {fr : Frame} {cs : List Frame} {dy : Option Dying} {g : Nat} {w : World} (h : n ≤ w.drawn) : GS n (early p fr cs dy g w) := by
  have notYet : ∀ w : World, n ≤ w.drawn → GS n (match w.heap[g]? with
    | some (.pending c elem) => .go { frame := fr, callers := cs, status := .running, dying := dy } { w with heap := w.heap.setIfInBounds g (.cells c elem) }
    | _ => .ended (.stuck "early: the variable does not wait" (fr.pos p)) w) := fun w h => by
    split
    · exact h
    · exact trivial
  unfold early
  dsimp only
  split
  · exact notYet w h
  · split
    · exact trivial
    · split
      · exact notYet w h
      · split
        · exact notYet w h
        · split
          · exact trivial
          · exact h
          · exact trivial
          · exact notYet w h
          · split
            · exact h
            · split
              · exact notYet w h
              · split
                · rename_i e
                  have h' := (by first | exact okR e h | exact haltR e h | exact okT e h | exact haltT e h | exact okF e h | exact haltF e h)
                  exact notYet _ h'
                · rename_i e
                  have h' := (by first | exact okR e h | exact haltR e h | exact okT e h | exact haltT e h | exact okF e h | exact haltF e h)
                  exact h'
                · exact trivial
theorem apply_late {n : Nat} {p : Program} {l : Bool} {fr : Frame} {cs : List Frame} {dy : Option Dying} {x : Sem Next} {w : World} (h : n ≤ w.drawn) : GS n (stepG.apply p l fr cs dy x w) := by
  have h' : Res n (if l then x.runT p w #[] else (x.run p w, #[])).1 := by
    split
    · exact runT_drawn p x w #[] h
    · exact run_drawn p x w h
  unfold stepG.apply
  revert h'
  generalize (if l then x.runT p w #[] else (x.run p w, #[])) = r
  obtain ⟨r, es⟩ := r
  intro h'
  dsimp only at h' ⊢
  rw [after_iff]
  split
  all_goals first
    | exact h'
    | exact trivial
    | exact endFatal_late h'
    | exact endThrow_late h'
    | exact early_late h'
    | (split <;> exact h')
    | (refine ite_late (endThrow_late h') ?_; exact h')
theorem oper_late {n : Nat} {p : Program} {l : Bool} {fr : Frame} {cs : List Frame} {dy : Option Dying} {w : World} (h : n ≤ w.drawn) : GS n (stepG.oper p l fr cs dy w) := by
  unfold stepG.oper
  split
  · exact trivial
  · split
    · exact apply_late h
    · exact apply_late h
theorem exec_late {n : Nat} {p : Program} {main l : Bool} {fr : Frame} {cs : List Frame} {dy : Option Dying} {w : World} (h : n ≤ w.drawn) : GS n (stepG.exec p main l fr cs dy w) := by
  have leave : ∀ (c : Prop) [Decidable c] (jump : Option Code), GS n (match fr.roundOf with
      | none => if c then .go { frame := { fr with mode := .returning }, callers := cs, status := .running, dying := dy } w else .ended (.stuck "exit, goto: no such block or label" (fr.pos p)) w
      | some l =>
        let (r, es) := (Instr.endRound l jump).runT p w #[]
        GStep.after (seen p fr.fn es) <| match r with
        | .ok v w => doReturn p main fr cs dy v w
        | .halt _ w => .ended (.stuck "range over a function: no such loop" (fr.pos p)) w) := fun c _ jump => by
    split
    · exact ite_late h trivial
    · rename_i l0 _
      have h' := runT_drawn p (Instr.endRound l0 jump) w #[] h
      revert h'
      generalize (Instr.endRound l0 jump).runT p w #[] = r
      obtain ⟨r, es⟩ := r
      intro h'
      dsimp only at h' ⊢
      rw [after_iff]
      split
      · exact doReturn_late h'
      · exact trivial
  unfold stepG.exec
  dsimp only
  split
  all_goals first
    | exact h
    | exact trivial
    | exact leave _ _
    | exact apply_late h
    | skip
  all_goals first
    | (refine ite_late ?_ ?_ <;> first | exact h | exact oper_late h)
    | (split <;> first | exact h | exact trivial)
    | (generalize exitTo _ _ = o; cases o; exact leave _ _; exact h)
    | (generalize gotoIn _ _ = o; cases o; exact leave _ _; exact h)
    | (generalize Extern.next _ = o; cases o; exact trivial; exact apply_late h)
    | (rw [after_iff]; split <;> rename_i e <;> first | exact apply_late (okF e h) | exact okF e h | exact haltF e h | exact trivial)
    | (refine ite_late h ?_; split <;> rename_i e <;> first | exact okR e h | exact trivial)
theorem stepG_late {n : Nat} {p : Program} {main l : Bool} {g : Goroutine} {w : World} (h : n ≤ w.drawn) : GS n (stepG p main g w l) := by
  unfold stepG
  dsimp only
  split
  · exact die_late h
  · exact exec_late h
  · exact unwind_late h
theorem comm_late {n : Nat} {p : Program} {rest : Rest} {gs : Array Goroutine} {i : Nat} {g : Goroutine} {cases : Array CommCase} {b : Bool} {shape : CommShape} {w : World} (h : n ≤ w.drawn) : St n (communicate p rest gs i g cases b shape w).1 := by
  unfold communicate
  dsimp only
  split
  · exact trivial
  · split
    · split
      · split
        · rename_i e
          unfold waitingAt at e
          split at e
          · split at e
            · cases e; exact h
            · cases e
          · cases e; exact h
        · exact trivial
      · exact h
    · split
      · exact trivial
      · rename_i e
        have h' := okR e h
        split
        · split
          · rename_i e2
            exact haltR e2 h'
          · exact trivial
        · exact h'
        · exact h'
        · split
          · exact h'
          · split
            · rename_i e2
              have h2 := okR e2 h'
              exact h2
            · exact trivial
        · exact h'
        · exact h'
        · exact trivial
theorem look_late {n : Nat} {p : Program} {gs : Array Goroutine} {rest : Rest} {w : World} (h : n ≤ w.drawn) : St n (look p gs rest w) := by
  unfold look
  split
  · dsimp only
    split
    · exact trivial
    · split
      · exact trivial
      · split
        · rename_i e
          have h2 := okR (n := n) e h
          exact h2
        · exact trivial
        · exact trivial
  · exact trivial
theorem withTimers_drawn (m : Machine) (t : Array Timer) : (m.withTimers t).world = m.world := rfl
theorem serve_late {n : Nat} {p : Program} {m : Machine} {k : Nat} (h : n ≤ m.world.drawn) : St n (serve p m k) := by
  unfold serve
  split
  · exact trivial
  · exact h
  · dsimp only
    split
    · exact trivial
    · exact h
theorem drain_drawn (w : World) (c : Nat) : (drain w c).2.drawn = w.drawn := by
  unfold drain
  split <;> rfl
theorem retime_drawn (m : Machine) (k : Nat) (t : Timer) (a b : Nat) : (retime m k t a b).2.world.drawn = m.world.drawn := by
  unfold retime
  dsimp only
  split
  · exact drain_drawn _ _
  · rfl
theorem named_drawn {m m' : Machine} {var : Addr} {f : Nat → Timer → Value × Machine} {v : Value} (hf : ∀ k t, (f k t).2.world.drawn = m.world.drawn) (e : timerOp.named m var f = .ok (v, m')) : m'.world.drawn = m.world.drawn := by
  unfold timerOp.named at e
  split at e
  · simp only [Except.ok.injEq] at e
    have := hf
    rename_i k _
    have h2 := hf k (m.rest.timers.getD k default)
    rw [e] at h2
    exact h2
  · cases e
theorem timerOp_drawn {m m' : Machine} {op : TimerOp} {v : Value} (e : timerOp m op = .ok (v, m')) : m'.world.drawn = m.world.drawn := by
  unfold timerOp at e
  split at e
  · split at e
    · cases e; rfl
    · split at e
      · split at e
        · cases e
        · cases e; rfl
      · cases e
  · exact named_drawn (fun k t => retime_drawn m k t 0 t.period) e
  · split at e
    · rename_i m2 ho
      have hm : m2.world.drawn = m.world.drawn := by
        unfold timerOp.opened at ho
        split at ho
        · split at ho
          · cases ho; rfl
          · cases ho
        · cases ho; rfl
      exact named_drawn (fun k t => (retime_drawn m2 k t _ _).trans hm) e
    · cases e
  · cases e; rfl
theorem runT_late {n : Nat} {p : Program} {m : Machine} {i : Nat} {l : Bool} (h : n ≤ m.world.drawn) : St n (Go.runT p m i l).1 := by
  have hs : ∀ g : Goroutine, GS n (stepG p (i == 0) g m.world l) := fun g => stepG_late h
  unfold Go.runT
  dsimp only
  generalize hx : m.gs.swapAt! i { (default : Goroutine) with status := .finished } = x
  obtain ⟨g, gs⟩ := x
  have hg := hs g
  dsimp only
  revert hg
  generalize stepG p (i == 0) g m.world l = s
  intro hg
  cases s with
  | ended o w es => exact trivial
  | comm g cases b shape w es => exact comm_late hg
  | go g w es => exact hg
  | spawn g c w es => exact hg
  | count g w es =>
    dsimp only
    split
    · exact trivial
    · exact hg
  | alone g on w es => exact hg
  | collect g w es => exact look_late hg
  | watch g w es => exact hg
  | newcoro g c d w es => exact hg
  | coroswitch g c exit w es =>
    dsimp only
    split
    · exact hg
    · exact hg
    · exact trivial
  | timer g op w es =>
    dsimp only
    split
    · rename_i e
      have h2 := timerOp_drawn e
      have h3 : n ≤ w.drawn := hg
      dsimp only at h2
      exact (show n ≤ _ by rw [h2]; exact h3)
    · exact hg
    · exact trivial
    · exact trivial
theorem askOn_late {n : Nat} {p : Program} {m : Machine} (h : n ≤ m.world.drawn) : Mv n (askOn p m) := by
  have pick : ∀ m : Machine, n ≤ m.world.drawn → ∀ (rs : List Nat), Mv n (match (choose (.sched rs.length)).run p m.world with
      | .halt _ w => .machine (.ended (.stuck "sched" "") w)
      | .ok k world =>
        if rs.length ≤ 1 then .goroutine { m with world } (rs.getD k 0) else
        match (choose (.extern "sched.slice" 65536)).run p world with
        | .halt _ w => .machine (.ended (.stuck "sched.slice" "") w)
        | .ok n world => .goroutine { m with world, rest := { m.rest with slice := if n = 0 then none else some (rs.getD k 0, n) } } (rs.getD k 0)) := fun m h rs => by
    split
    · exact trivial
    · rename_i e
      have h1 := okR e h
      split
      · exact h1
      · split
        · exact trivial
        · rename_i e2
          have h2 := okR e2 h1
          exact h2
  unfold askOn
  dsimp only
  split
  · exact trivial
  · rename_i kA wA e
    have h1 := okR e h
    split
    · exact serve_late h1
    · split
      · split
        · exact h1
        · split
          · exact h1
          · split
            · exact trivial
            · exact trivial
      · split
        · exact pick { m with world := wA } h1 _
        · split
          · exact trivial
          · rename_i wB e2
            have h2 := okR e2 h1
            exact pick { m with world := wB } h2 _
          · rename_i e2
            have h2 := okR e2 h1
            exact h2
          · rename_i e2
            have h2 := okR e2 h1
            refine pick _ ?_ _
            exact h2
theorem ask_late {n : Nat} {p : Program} {m : Machine} (h : n ≤ m.world.drawn) : Mv n (Go.ask p m) := by
  unfold Go.ask
  split
  · split
    · exact trivial
    · rename_i e
      have h1 := okR e h
      split
      · rename_i e2
        have h2 := look_late (p := p) (gs := m.gs) (rest := m.rest) h1
        rw [e2] at h2
        exact askOn_late h2
      · exact look_late h1
    · rename_i e
      have h1 := okR e h
      exact askOn_late h1
  · exact askOn_late h
theorem move_late {n : Nat} {p : Program} {m : Machine} (h : n ≤ m.world.drawn) : Mv n (move p m) := by
  unfold move
  split
  · split
    · exact h
    · exact trivial
  · split
    · split
      · exact h
      · exact ask_late h
    · exact ask_late h
theorem step_late {n : Nat} {p : Program} {m m' : Machine} (e : step p m = .next m') (h : n ≤ m.world.drawn) : n ≤ m'.world.drawn := by
  unfold step stepT at e
  have hm := move_late (p := p) h
  revert e hm
  generalize move p m = v
  intro e hm
  cases v with
  | goroutine m2 i =>
    have h2 := runT_late (p := p) (i := i) (l := true) (show n ≤ m2.world.drawn from hm)
    dsimp only at e
    rw [e] at h2
    exact h2
  | machine s ops =>
    dsimp only at e
    subst e
    exact hm
theorem runN_late {n : Nat} {p : Program} : ∀ (k : Nat) {m m' : Machine}, runN p k m = .next m' → n ≤ m.world.drawn → n ≤ m'.world.drawn
  | 0, m, m', e, h => by
    unfold runN at e
    cases e
    exact h
  | k + 1, m, m', e, h => by
    unfold runN at e
    split at e
    · rename_i e1
      exact runN_late k e (step_late e1 h)
    · rename_i hn
      exact (hn _ e).elim
theorem Steps_late {p : Program} {m m' : Machine} (h : Steps p m m') : m.world.drawn ≤ m'.world.drawn := by
  obtain ⟨k, e⟩ := h
  exact runN_late k e (Nat.le_refl _)
/-- A CALL THAT RETURNS leaves a world in which the tape was asked no less often. -/
theorem Calls_late {P : Program} {f : FuncId} {args : Array Value} {w : World} {v : Value} {R : World → Prop} (h : Calls P f args w fun e w' => e = .returned v ∧ R w') : Calls P f args w fun e w' => e = .returned v ∧ R w' ∧ w.drawn ≤ w'.drawn := fun cs => by
  obtain ⟨e, w', fr, ⟨rfl, hR⟩, hc, hf, hl⟩ := h cs
  exact ⟨_, w', fr, ⟨rfl, hR, Steps_late (show Steps P _ _ from hc)⟩, hc, hf, hl⟩
end Go.Proofs.YtokaapljlpngdaaGreatDoor.drw
/- The places of a row of spots: what the library's sort asks of the closure that compares two of them. -/

namespace Go.Proofs.YtokaapljlpngdaaGreatDoor
open Go.RowKit Num rows
open Go.Sort

def encF {n : Nat} (i : Fin (n + 1)) : Value := .int .i64 (i.val : Int)
def cfF (L : List Sp) {n : Nat} (i j : Fin (n + 1)) : Int := cfL L i.val j.val
theorem below_grow (w : World) (os : Array Obj) : Below w.heap.size w (grow w os) :=
  ⟨rfl, rfl, rfl, by simp [grow], fun k hk => by simp [grow, Array.getElem?_append, hk]⟩
theorem below_sorted {α : Type} [Inhabited α] (enc : α → Value) {w0 w : World} {blk : Nat} (hb : Below w0.heap.size w0 w) (hbk : w0.heap.size ≤ blk) (q : Nat) (dk : Array α) (os : Array Obj) : Below w0.heap.size w0 (sortWorld enc w blk 0 q dk os) := by
  have h := Lib.below_putRow (enc := enc) (q := q) (d := dk) hb hbk
  exact h.trans ((below_grow _ os).mono h.size)
/-- what was asked no less often, and leaves all that lay: draws on, blocks behind -/
theorem lays_of_below {w w' : World} (h : Below w.heap.size w w') (hd : w.drawn ≤ w'.drawn) : ∃ q os, w' = grow (w.drewN q) os := by
  obtain ⟨p, hp⟩ := regrown_of_below h
  have e : w'.drawn = p.d := by rw [hp]; rfl
  refine ⟨p.d - w.drawn, p.os, ?_⟩
  rw [hp]
  congr 1
  unfold redrawn World.drewN
  rw [show w.drawn + (p.d - w.drawn) = p.d by omega]

theorem cmp_lays (L : List Sp) (n : Nat) (hn : L.length = n + 1) (A : Option Addr) (cap gl m blk size : Nat) (w0 w : World) (hm1 : 1 ≤ m) (hm : m ≤ 4194304) (hb : Below w0.heap.size w0 w) (hbk : w0.heap.size ≤ blk) (hgl : gl ≠ blk) (hglt : gl < w.heap.size)
    (hbox : w.cell? ⟨gl, 0, none⟩ = some (.slice A L.length cap)) (hl : RdS w0 A L) (hok : ∀ s ∈ L, s.Ok w0) (hsh : ∀ s ∈ L, s.Sh m) (hlen : L.length ≤ 1073741824) :
    CmpLays1 Tryz.prog 9 #[.pointer (some ⟨gl, 0, none⟩)] (encF (n := n)) (cfF L) blk 0 size w := by
  intro q os dk _ x y
  have hB := below_sorted (encF (n := n)) hb hbk q dk os
  have hbox' : (sortWorld (encF (n := n)) w blk 0 q dk os).cell? ⟨gl, 0, none⟩ = some (.slice A L.length cap) := by
    unfold sortWorld
    rw [cell?_grow _ _ _ (by simpa [putRow, mapBlock, Sort.ahead] using hglt), cell?_putRow_other _ _ _ _ _ _ (Or.inl hgl), cell?_ahead]
    exact hbox
  have h := spot_Row1 L A cap gl m (sortWorld (encF (n := n)) w blk 0 q dk os) hm1 hm hbox' (hl.on hB) (fun s hs => (hok s hs).on hB) hsh hlen x.val y.val (by omega) (by omega)
  refine (drw.Calls_late h).mono ?_
  rintro e w' ⟨rfl, hbel, hd⟩
  refine ⟨?_, lays_of_below hbel hd⟩
  have e1 : L.getD x.val default = L[x.val]'(by omega) := by simp [List.getD, hn]
  have e2 : L.getD y.val default = L[y.val]'(by omega) := by simp [List.getD, hn]
  unfold cfF cfL
  rw [e1, e2]
end Go.Proofs.YtokaapljlpngdaaGreatDoor
/- The order of a row's places: two fractions, one after the other; what the library's sort leaves, as a list of places. -/

namespace Go.Proofs.YtokaapljlpngdaaGreatDoor
open Go.RowKit Num rows
open Go.Sort

theorem sgn_neg0 (x : Int) : sgn (-x) = - sgn x := by
  unfold sgn
  split <;> split <;> (try split) <;> (try split) <;> omega
theorem sgn_le0 {x : Int} : sgn x ≤ 0 ↔ x ≤ 0 := by
  unfold sgn
  split <;> (try split) <;> omega
theorem ord_sgn (u l : Nat → Int) (hl : ∀ i, 0 < l i) : Ord fun i j => sgn (u i * l j - u j * l i) where
  anti i j := by rw [← sgn_neg0]; congr 1; omega
  trans i j k h1 h2 := by
    rw [sgn_le0] at h1 h2 ⊢
    have a1 : u i * l j * l k ≤ u j * l i * l k := Int.mul_le_mul_of_nonneg_right (by omega) (Int.le_of_lt (hl k))
    have a2 : u j * l k * l i ≤ u k * l j * l i := Int.mul_le_mul_of_nonneg_right (by omega) (Int.le_of_lt (hl i))
    have a3 : u j * l i * l k = u j * l k * l i := by rw [Int.mul_assoc, Int.mul_assoc, Int.mul_comm (l i)]
    have a4 : u i * l j * l k = u i * l k * l j := by rw [Int.mul_assoc, Int.mul_assoc, Int.mul_comm (l j)]
    have a5 : u k * l j * l i = u k * l i * l j := by rw [Int.mul_assoc, Int.mul_assoc, Int.mul_comm (l j)]
    have a6 : u i * l k * l j ≤ u k * l i * l j := by omega
    have a7 := Int.le_of_mul_le_mul_right a6 (hl j)
    omega
theorem ord_lex {c1 c2 : Nat → Nat → Int} (h1 : Ord c1) (h2 : Ord c2) : Ord fun i j => lex (c1 i j) (c2 i j) where
  anti i j := by
    have e1 := h1.anti i j
    have e2 := h2.anti i j
    show lex _ _ = - lex _ _
    unfold lex
    split <;> split <;> omega
  trans i j k k1 k2 := by
    have f : ∀ a b : Int, lex a b ≤ 0 ↔ a < 0 ∨ (a = 0 ∧ b ≤ 0) := fun a b => by unfold lex; split <;> omega
    show lex _ _ ≤ 0
    rw [f] at k1 k2 ⊢
    rcases k1 with k1 | ⟨k1, m1⟩
    · exact .inl (h1.lt_of_lt_le k1 (by omega))
    · rcases k2 with k2 | ⟨k2, m2⟩
      · exact .inl (h1.lt_of_le_lt (by omega) k2)
      · have t1 := h1.trans i j k (by omega) (by omega)
        have t2 := h1.trans k j i (by have := h1.anti j k; omega) (by have := h1.anti i j; omega)
        have t3 := h1.anti i k
        exact .inr ⟨by omega, h2.trans i j k m1 m2⟩
theorem ord_cfL (L : List Sp) : Ord (cfL L) :=
  ord_lex (ord_sgn (fun i => upN (L.getD i default).n1 (L.getD i default).a1 (L.getD i default).d1) (fun i => (loD (L.getD i default).d1 : Int)) (fun i => by have := loD_pos (L.getD i default).d1; omega))
    (ord_sgn (fun i => upN (L.getD i default).n2 (L.getD i default).a2 (L.getD i default).d2) (fun i => (loD (L.getD i default).d2 : Int)) (fun i => by have := loD_pos (L.getD i default).d2; omega))
theorem swo_cfF (L : List Sp) (n : Nat) : SWO (ltOf (cfF L (n := n))) where
  irrefl x := by simp [ltOf, cfF, (ord_cfL L).self]
  trans x y z h1 h2 := by
    have g1 : cfL L x.val y.val < 0 := of_decide_eq_true h1
    have g2 : cfL L y.val z.val < 0 := of_decide_eq_true h2
    exact decide_eq_true ((ord_cfL L).lt_of_lt_le g1 (Int.le_of_lt g2))
  ntrans x y z h1 h2 := by
    have g1 : ¬ cfL L x.val y.val < 0 := of_decide_eq_false h1
    have g2 : ¬ cfL L y.val z.val < 0 := of_decide_eq_false h2
    apply decide_eq_false
    show ¬ cfL L x.val z.val < 0
    have a1 := (ord_cfL L).anti x y
    have a2 := (ord_cfL L).anti y z
    have a3 := (ord_cfL L).anti x z
    have := (ord_cfL L).trans z y x (by omega) (by omega)
    omega
/-- what the sort leaves, as a list of places -/
theorem sorted_places (L : List Sp) (n : Nat) (d d' : Array (Fin (n + 1))) (hd : ∀ i : Fin (n + 1), i ∈ d) (hp : PermIn 0 d.size d d') (hs : SortedIn (ltOf (cfF L)) 0 d.size d') :
    (d'.toList.map Fin.val).Pairwise (fun a b => cfL L a b ≤ 0) ∧ (∀ x ∈ d'.toList.map Fin.val, x < n + 1) ∧ ∀ i, i < n + 1 → i ∈ d'.toList.map Fin.val := by
  obtain ⟨hsz, -, hperm⟩ := hp
  refine ⟨?_, fun x hx => ?_, fun i hi => ?_⟩
  · rw [List.pairwise_map, List.pairwise_iff_getElem]
    intro i j hi hj hij
    have hi' : i < d'.size := by simpa using hi
    have hj' : j < d'.size := by simpa using hj
    have h := hs i j (Nat.zero_le _) hij (by omega)
    rw [getElem!_pos d' i hi', getElem!_pos d' j hj'] at h
    have g : ¬ cfL L d'[j].val d'[i].val < 0 := of_decide_eq_false h
    have a := (ord_cfL L).anti d'[i].val d'[j].val
    simp only [Array.getElem_toList]
    omega
  · obtain ⟨y, -, rfl⟩ := List.mem_map.mp hx
    exact y.isLt
  · refine List.mem_map.mpr ⟨⟨i, hi⟩, ?_, rfl⟩
    have hm : (⟨i, hi⟩ : Fin (n + 1)) ∈ (d.extract 0 d.size).toList := by simpa using hd ⟨i, hi⟩
    have h2 := hperm.symm.subset hm
    rw [← hsz] at h2
    simpa using h2
end Go.Proofs.YtokaapljlpngdaaGreatDoor
/- A row's places, sorted by the library: what the call leaves. -/

namespace Go.Proofs.YtokaapljlpngdaaGreatDoor
open Go.RowKit Num rows
open Go.Sort

theorem sort_places (L : List Sp) (n : Nat) (hn : L.length = n + 1) (A : Option Addr) (cap gl m blk capP : Nat) (w0 w : World) (hm1 : 1 ≤ m) (hm : m ≤ 4194304) (hb : Below w0.heap.size w0 w) (hbk : w0.heap.size ≤ blk) (hblk : blk < w.heap.size) (hgl : gl ≠ blk) (hglt : gl < w.heap.size)
    (hbox : w.cell? ⟨gl, 0, none⟩ = some (.slice A L.length cap)) (hl : RdS w0 A L) (hok : ∀ s ∈ L, s.Ok w0) (hsh : ∀ s ∈ L, s.Sh m) (hlen : L.length ≤ 1073741824)
    (hrow : ∀ j, j < n + 1 → w.cell? ⟨blk, j, none⟩ = some (.int .i64 (j : Int)) ∧ w.frozen? ⟨blk, j, none⟩ = false) :
    Calls Tryz.prog 8 #[.slice (some ⟨blk, 0, none⟩) L.length capP, .func (.func 9) #[] #[.pointer (some ⟨gl, 0, none⟩)]] w fun e w' =>
      e = .returned (.tuple #[]) ∧ ∃ s : List Nat, s.length = L.length ∧ s.Pairwise (fun a b => cfL L a b ≤ 0) ∧ (∀ x ∈ s, x < L.length) ∧ (∀ i, i < L.length → i ∈ s) ∧
        Below w0.heap.size w0 w' ∧ w.heap.size ≤ w'.heap.size ∧ w'.cell? ⟨gl, 0, none⟩ = some (.slice A L.length cap) ∧ ∀ (k : Nat) (hk : k < s.length), w'.cell? ⟨blk, k, none⟩ = some (.int .i64 (s[k] : Int)) := by
  have hsz : (Array.ofFn (n := n + 1) id).size = L.length := by simp [hn]
  have eg : ∀ args w, (callFunc 9 args).run Tryz.prog w = .ok (.enter 9 args) w := enters_of Tryz.func9 (by kernel_rfl) rfl
  have hH : Holds (encF (n := n)) w blk 0 (Array.ofFn (n := n + 1) id) := fun j hj => by
    have hj' : j < n + 1 := by simpa using hj
    have h := hrow j hj'
    rw [getElem!_pos _ j hj]
    simp only [Nat.zero_add, Array.getElem_ofFn, encF, id]
    exact h
  have hcmp := cmp_lays L n hn A cap gl m blk (Array.ofFn (n := n + 1) id).size w0 w hm1 hm hb hbk hgl hglt hbox hl hok hsh hlen
  have hc := Tryz.slices_SortFunc (encF (n := n)) (fun _ => rfl) (cfF L) (swo_cfF L n) 9 #[.pointer (some ⟨gl, 0, none⟩)] blk 0 capP (Array.ofFn (n := n + 1) id) w eg hcmp hH hblk (by rw [hsz]; omega)
  rw [hsz] at hc
  refine hc.mono ?_
  rintro e w' ⟨he, d', q, os, hp, hs, rfl⟩
  have hsz' : d'.size = L.length := by rw [hp.1, hsz]
  obtain ⟨k1, k2, k3⟩ := sorted_places L n (Array.ofFn (n := n + 1) id) d' (fun i => by simp [Array.mem_ofFn]) (by rw [hsz]; exact hp) (by rw [hsz]; exact hs)
  have hbel := below_sorted (encF (n := n)) hb hbk q d' os
  have hput : ∀ v, v < w.heap.size → v < (putRow (encF (n := n)) (Sort.ahead w q) blk 0 d').heap.size := fun v hv => by simpa [putRow, mapBlock, Sort.ahead] using hv
  refine ⟨he, d'.toList.map Fin.val, by simp [hsz'], k1, by rw [hn]; exact k2, by rw [hn]; exact k3, hbel, by simp [sortWorld, grow, putRow, mapBlock, Sort.ahead], ?_, fun k hk => ?_⟩
  · unfold sortWorld
    rw [cell?_grow _ _ _ (hput _ hglt), cell?_putRow_other _ _ _ _ _ _ (Or.inl hgl), cell?_ahead]
    exact hbox
  · have hk' : k < d'.size := by simpa using hk
    have hSW : SW (encF (n := n)) w blk 0 d' (sortWorld (encF (n := n)) w blk 0 q d' os) := ⟨q, os, rfl⟩
    have h := (hSW.holds hblk hH (by rw [hsz', hsz]) k hk').1
    rw [getElem!_pos d' k hk', Nat.zero_add] at h
    rw [h]
    simp [encF]
end Go.Proofs.YtokaapljlpngdaaGreatDoor
