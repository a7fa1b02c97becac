/- Where ways meet, as mathematics: points as rationals, what lies on a way, the row that Meet answers. No program is named here. -/
import Derived.Test.YtdmoibphidipeaaGreatDoorZOaA
import Derived.Test.YtdmoibphidipeaaGreatDoorZOaI
namespace Go.Proofs.YtdmoibphidipeaaGreatDoor

/-- a point, exactly -/
structure Qp where
  x : Rat
  y : Rat
deriving DecidableEq
theorem Qp.ext' {p q : Qp} (h1 : p.x = q.x) (h2 : p.y = q.y) : p = q := by
  obtain ⟨a, b⟩ := p
  obtain ⟨c, d⟩ := q
  dsimp only at h1 h2
  rw [h1, h2]
def qAt (p : Pt) : Qp := ⟨(p.x : Rat), (p.y : Rat)⟩
/-- twice the area of three points, with its sign -/
def crQ (o a b : Qp) : Rat := (a.x - o.x) * (b.y - o.y) - (a.y - o.y) * (b.x - o.x)
def btw (a b c : Rat) : Prop := (a ≤ c ∧ c ≤ b) ∨ (b ≤ c ∧ c ≤ a)
/-- on a way -/
def OnQ (a b p : Qp) : Prop := crQ a b p = 0 ∧ btw a.x b.x p.x ∧ btw a.y b.y p.y
def ltQ (p q : Qp) : Prop := p.x < q.x ∨ (p.x = q.x ∧ p.y < q.y)
def leQ (p q : Qp) : Prop := p.x < q.x ∨ (p.x = q.x ∧ p.y ≤ q.y)
theorem leQ_refl (p : Qp) : leQ p p := .inr ⟨rfl, by grind⟩
theorem leQ_trans {p q r : Qp} (h : leQ p q) (k : leQ q r) : leQ p r := by unfold leQ at *; grind
theorem leQ_anti {p q : Qp} (h : leQ p q) (k : leQ q p) : p = q := by
  apply Qp.ext' <;> unfold leQ at * <;> grind
theorem leQ_total (p q : Qp) : leQ p q ∨ leQ q p := by unfold leQ; grind
theorem ltQ_le {p q : Qp} (h : ltQ p q) : leQ p q := by unfold leQ ltQ at *; grind
theorem ltQ_irrefl {p : Qp} (h : ltQ p p) : False := by unfold ltQ at h; grind
theorem ltQ_of {p q : Qp} (h : leQ p q) (hn : p ≠ q) : ltQ p q := by
  unfold leQ at h
  unfold ltQ
  rcases h with h | ⟨h1, h2⟩
  · exact .inl h
  · refine .inr ⟨h1, ?_⟩
    have : p.y ≠ q.y := fun e => hn (Qp.ext' h1 e)
    grind
theorem ltQ_not {p q : Qp} (h : ltQ p q) (k : leQ q p) : False := by unfold leQ ltQ at *; grind
theorem onQ_first (a b : Qp) : OnQ a b a := by unfold OnQ crQ btw; grind
theorem onQ_second (a b : Qp) : OnQ a b b := by unfold OnQ crQ btw; grind
theorem onQ_one {a p : Qp} (h : OnQ a a p) : p = a := by
  obtain ⟨-, h1, h2⟩ := h
  unfold btw at *
  apply Qp.ext' <;> grind
theorem frac_in {u d : Rat} (hd : 0 < d) (h : 0 ≤ u) (h2 : u ≤ d) : 0 ≤ u / d ∧ u / d ≤ 1 := by
  have e : u / d * d = u := by grind
  constructor
  · apply Classical.byContradiction
    intro hc
    have h3 := Rat.mul_lt_mul_of_pos_right (show u / d < 0 by grind) hd
    grind
  · apply Classical.byContradiction
    intro hc
    have h3 := Rat.mul_lt_mul_of_pos_right (show 1 < u / d by grind) hd
    grind
theorem frac_btw {a b c : Rat} (hn : a ≠ b) (h : btw a b c) : 0 ≤ (c - a) / (b - a) ∧ (c - a) / (b - a) ≤ 1 := by
  unfold btw at h
  rcases h with h | h
  · exact frac_in (by grind) (by grind) (by grind)
  · have e : (c - a) / (b - a) = (a - c) / (a - b) := by grind
    rw [e]
    exact frac_in (by grind) (by grind) (by grind)
/-- what lies on a way lies a part of it from its beginning -/
theorem onQ_part {a b p : Qp} (h : OnQ a b p) : ∃ t : Rat, 0 ≤ t ∧ t ≤ 1 ∧ p.x = a.x + t * (b.x - a.x) ∧ p.y = a.y + t * (b.y - a.y) := by
  obtain ⟨h0, h1, h2⟩ := h
  unfold crQ at h0
  by_cases hx : a.x = b.x
  · by_cases hy : a.y = b.y
    · refine ⟨0, by grind, by grind, ?_, ?_⟩ <;> unfold btw at * <;> grind
    · obtain ⟨t0, t1⟩ := frac_btw hy h2
      refine ⟨(p.y - a.y) / (b.y - a.y), t0, t1, ?_, ?_⟩
      · unfold btw at h1
        have : p.x = a.x := by grind
        grind
      · grind
  · obtain ⟨t0, t1⟩ := frac_btw hx h1
    refine ⟨(p.x - a.x) / (b.x - a.x), t0, t1, ?_, ?_⟩ <;> grind
theorem part_btw {a b t : Rat} (h0 : 0 ≤ t) (h1 : t ≤ 1) : btw a b (a + t * (b - a)) := by
  unfold btw
  rcases (show a ≤ b ∨ b ≤ a by grind) with h | h
  · have m1 := Rat.mul_nonneg h0 (show 0 ≤ b - a by grind)
    have m2 := Rat.mul_nonneg (show 0 ≤ 1 - t by grind) (show 0 ≤ b - a by grind)
    left
    grind
  · have m1 := Rat.mul_nonneg h0 (show 0 ≤ a - b by grind)
    have m2 := Rat.mul_nonneg (show 0 ≤ 1 - t by grind) (show 0 ≤ a - b by grind)
    right
    grind
theorem part_onQ (a b : Qp) {t : Rat} (h0 : 0 ≤ t) (h1 : t ≤ 1) : OnQ a b ⟨a.x + t * (b.x - a.x), a.y + t * (b.y - a.y)⟩ := by
  refine ⟨?_, part_btw h0 h1, part_btw h0 h1⟩
  unfold crQ
  dsimp only
  grind
/-- both ways' points -/
def Both (a b c d p : Qp) : Prop := OnQ a b p ∧ OnQ c d p
theorem Both.turn {a b c d p : Qp} (h : Both a b c d p) : Both c d a b p := ⟨h.2, h.1⟩
/-- the row that Meet answers: none; one; the least and the greatest -/
def IsMeet (a b c d : Qp) : List Qp → Prop
  | [] => ∀ p, ¬ Both a b c d p
  | [x] => Both a b c d x ∧ ∀ p, Both a b c d p → p = x
  | [lo, hi] => (Both a b c d lo ∧ Both a b c d hi) ∧ ltQ lo hi ∧ ∀ p, Both a b c d p → leQ lo p ∧ leQ p hi
  | _ => False
theorem IsMeet.turn {a b c d : Qp} {R : List Qp} (h : IsMeet a b c d R) : IsMeet c d a b R := by
  match R, h with
  | [], h => exact fun p hp => h p hp.turn
  | [x], h => exact ⟨h.1.turn, fun p hp => h.2 p hp.turn⟩
  | [lo, hi], h => exact ⟨⟨h.1.1.turn, h.1.2.turn⟩, h.2.1, fun p hp => h.2.2 p hp.turn⟩
theorem IsMeet.unique {a b c d : Qp} {R R' : List Qp} (h : IsMeet a b c d R) (k : IsMeet a b c d R') : R = R' := by
  match R, h, R', k with
  | [], _, [], _ => rfl
  | [], h, [x], k => exact absurd k.1 (h x)
  | [], h, [lo, hi], k => exact absurd k.1.1 (h lo)
  | [x], h, [], k => exact absurd h.1 (k x)
  | [x], h, [y], k => rw [k.2 x h.1]
  | [x], h, [lo, hi], k =>
    have e1 := h.2 lo k.1.1
    have e2 := h.2 hi k.1.2
    exact absurd (by rw [e1, e2] at k; exact k.2.1) (fun h => ltQ_irrefl h)
  | [lo, hi], h, [], k => exact absurd h.1.1 (k lo)
  | [lo, hi], h, [x], k =>
    have e1 := k.2 lo h.1.1
    have e2 := k.2 hi h.1.2
    exact absurd (by rw [e1, e2] at h; exact h.2.1) (fun h => ltQ_irrefl h)
  | [lo, hi], h, [lo', hi'], k =>
    have e1 := leQ_anti (h.2.2 lo' k.1.1).1 (k.2.2 lo h.1.1).1
    have e2 := leQ_anti (k.2.2 hi h.1.2).2 (h.2.2 hi' k.1.2).2
    rw [e1, e2]
theorem IsMeet.on {a b c d : Qp} {R : List Qp} (h : IsMeet a b c d R) : ∀ p ∈ R, Both a b c d p := by
  match R, h with
  | [], _ => intro p hp; cases hp
  | [x], h => intro p hp; simp at hp; subst hp; exact h.1
  | [lo, hi], h => intro p hp; simp at hp; rcases hp with rfl | rfl; exact h.1.1; exact h.1.2
theorem IsMeet.le {a b c d : Qp} {R : List Qp} (h : IsMeet a b c d R) : R.length ≤ 2 := by
  match R, h with
  | [], _ => simp
  | [x], _ => simp
  | [lo, hi], _ => simp
/-- where the lines of two ways that are not side by side meet -/
def crossQ (a b c d : Qp) : Qp := ⟨a.x + crQ c d a / (crQ c d a - crQ c d b) * (b.x - a.x), a.y + crQ c d a / (crQ c d a - crQ c d b) * (b.y - a.y)⟩
theorem cross_only {a b c d p : Qp} (hn : crQ c d a ≠ crQ c d b) (h : Both a b c d p) : p = crossQ a b c d := by
  obtain ⟨t, -, -, h1, h2⟩ := onQ_part h.1
  have h3 := h.2.1
  have e : crQ c d p = crQ c d a - t * (crQ c d a - crQ c d b) := by
    unfold crQ
    rw [h1, h2]
    grind
  rw [h3] at e
  obtain ⟨A, hA⟩ : ∃ A, crQ c d a = A := ⟨_, rfl⟩
  obtain ⟨B, hB⟩ : ∃ B, crQ c d b = B := ⟨_, rfl⟩
  unfold crossQ
  rw [hA, hB] at e hn ⊢
  have ht : t = A / (A - B) := by grind
  subst ht
  exact Qp.ext' h1 h2
theorem meet_cross {a b c d : Qp} (hn : crQ c d a ≠ crQ c d b) : (Both a b c d (crossQ a b c d) → IsMeet a b c d [crossQ a b c d]) ∧ (¬ Both a b c d (crossQ a b c d) → IsMeet a b c d []) :=
  ⟨fun h => ⟨h, fun _ hp => cross_only hn hp⟩, fun h p hp => h (by rw [← cross_only hn hp]; exact hp)⟩
/-- on a line, to lie on a way is to lie between its ends in the points' order -/
theorem onQ_le {a b p : Qp} (h0 : crQ a b p = 0) : OnQ a b p ↔ (leQ a p ∧ leQ p b) ∨ (leQ b p ∧ leQ p a) := by
  unfold OnQ
  constructor
  · rintro ⟨-, h1, h2⟩
    unfold crQ at h0
    unfold btw at h1 h2
    unfold leQ
    by_cases hx : a.x = b.x
    · have : p.x = a.x := by grind
      grind
    · by_cases hy : p.x = a.x
      · have : (b.x - a.x) * (p.y - a.y) = 0 := by grind
        have : p.y = a.y := by
          rcases Rat.mul_eq_zero.1 this with h | h <;> grind
        grind
      · by_cases hz : p.x = b.x
        · have : (b.x - a.x) * (p.y - b.y) = 0 := by grind
          have : p.y = b.y := by
            rcases Rat.mul_eq_zero.1 this with h | h <;> grind
          grind
        · grind
  · intro h
    refine ⟨h0, ?_, ?_⟩
    · unfold leQ at h
      unfold btw
      grind
    · unfold crQ at h0
      by_cases hx : a.x = b.x
      · unfold leQ at h
        unfold btw
        grind
      · have hb : btw a.x b.x p.x := by
          unfold leQ at h
          unfold btw
          grind
        obtain ⟨t0, t1⟩ := frac_btw hx hb
        have e : p.y = a.y + (p.x - a.x) / (b.x - a.x) * (b.y - a.y) := by grind
        rw [e]
        exact part_btw t0 t1
/-- the lesser and the greater of two points -/
def loQ (a b : Qp) : Qp := if a.x < b.x ∨ (a.x = b.x ∧ a.y ≤ b.y) then a else b
def hiQ (a b : Qp) : Qp := if a.x < b.x ∨ (a.x = b.x ∧ a.y ≤ b.y) then b else a
theorem lo_hi (a b : Qp) : (loQ a b = a ∧ hiQ a b = b ∧ leQ a b) ∨ (loQ a b = b ∧ hiQ a b = a ∧ leQ b a) := by
  unfold loQ hiQ
  by_cases h : a.x < b.x ∨ (a.x = b.x ∧ a.y ≤ b.y)
  · rw [if_pos h, if_pos h]
    exact .inl ⟨rfl, rfl, h⟩
  · rw [if_neg h, if_neg h]
    refine .inr ⟨rfl, rfl, ?_⟩
    unfold leQ
    grind
theorem onQ_lo {a b p : Qp} (h0 : crQ a b p = 0) : OnQ a b p ↔ leQ (loQ a b) p ∧ leQ p (hiQ a b) := by
  rw [onQ_le h0]
  rcases lo_hi a b with ⟨h1, h2, h3⟩ | ⟨h1, h2, h3⟩
  · rw [h1, h2]
    constructor
    · rintro (⟨k1, k2⟩ | ⟨k1, k2⟩)
      · exact ⟨k1, k2⟩
      · have e1 := leQ_anti (leQ_trans h3 k1) k2
        have e2 := leQ_anti (leQ_trans k2 h3) k1
        subst e1
        subst e2
        exact ⟨leQ_refl _, leQ_refl _⟩
    · exact .inl
  · rw [h1, h2]
    constructor
    · rintro (⟨k1, k2⟩ | ⟨k1, k2⟩)
      · have e1 := leQ_anti (leQ_trans h3 k1) k2
        have e2 := leQ_anti (leQ_trans k2 h3) k1
        subst e1
        subst e2
        exact ⟨leQ_refl _, leQ_refl _⟩
      · exact ⟨k1, k2⟩
    · exact .inr
theorem lo_end (a b : Qp) : (loQ a b = a ∨ loQ a b = b) ∧ (hiQ a b = a ∨ hiQ a b = b) := by
  rcases lo_hi a b with ⟨h1, h2, -⟩ | ⟨h1, h2, -⟩
  · exact ⟨.inl h1, .inr h2⟩
  · exact ⟨.inr h1, .inl h2⟩
/-- points of one line: from both ends of a way that is one, the other way's ends -/
theorem line_turn {a b c d : Qp} (hcd : c ≠ d) (h1 : crQ c d a = 0) (h2 : crQ c d b = 0) : crQ a b c = 0 ∧ crQ a b d = 0 := by
  unfold crQ at *
  by_cases hx : c.x = d.x
  · have hy : c.y ≠ d.y := fun e => hcd (Qp.ext' hx e)
    have e1 : (d.y - c.y) * (a.x - c.x) = 0 := by grind
    have e2 : (d.y - c.y) * (b.x - c.x) = 0 := by grind
    have f1 : a.x = c.x := by rcases Rat.mul_eq_zero.1 e1 with h | h <;> grind
    have f2 : b.x = c.x := by rcases Rat.mul_eq_zero.1 e2 with h | h <;> grind
    constructor <;> grind
  · have e1 : a.y - c.y = (d.y - c.y) / (d.x - c.x) * (a.x - c.x) := by grind
    have e2 : b.y - c.y = (d.y - c.y) / (d.x - c.x) * (b.x - c.x) := by grind
    have e3 : d.y - c.y = (d.y - c.y) / (d.x - c.x) * (d.x - c.x) := by grind
    generalize (d.y - c.y) / (d.x - c.x) = m at e1 e2 e3
    constructor <;> grind
/-- an end of one of two ways -/
def EndQ (a b c d p : Qp) : Prop := p = a ∨ p = b ∨ p = c ∨ p = d
/-- where two ways lie on one line, or side by side: what both have lies between ends that both have -/
theorem meet_ends {a b c d p : Qp} (hpar : crQ c d a = crQ c d b) (h : Both a b c d p) : ∃ lo hi, (EndQ a b c d lo ∧ Both a b c d lo) ∧ (EndQ a b c d hi ∧ Both a b c d hi) ∧ leQ lo p ∧ leQ p hi := by
  by_cases hab : a = b
  · subst hab
    obtain rfl := onQ_one h.1
    exact ⟨p, p, ⟨.inl rfl, h⟩, ⟨.inl rfl, h⟩, leQ_refl _, leQ_refl _⟩
  by_cases hcd : c = d
  · subst hcd
    obtain rfl := onQ_one h.2
    exact ⟨p, p, ⟨.inr (.inr (.inl rfl)), h⟩, ⟨.inr (.inr (.inl rfl)), h⟩, leQ_refl _, leQ_refl _⟩
  have h0 : crQ c d a = 0 ∧ crQ c d b = 0 := by
    obtain ⟨t, -, -, h1, h2⟩ := onQ_part h.1
    have h3 := h.2.1
    have e : crQ c d p = crQ c d a - t * (crQ c d a - crQ c d b) := by
      unfold crQ
      rw [h1, h2]
      grind
    rw [h3, hpar] at e
    rw [hpar]
    grind
  obtain ⟨hc, hd⟩ := line_turn hcd h0.1 h0.2
  obtain ⟨k1, k2⟩ := (onQ_lo h.1.1).1 h.1
  obtain ⟨k3, k4⟩ := (onQ_lo h.2.1).1 h.2
  have hlo1 : crQ c d (loQ a b) = 0 := by rcases (lo_end a b).1 with e | e <;> rw [e]; exact h0.1; exact h0.2
  have hhi1 : crQ c d (hiQ a b) = 0 := by rcases (lo_end a b).2 with e | e <;> rw [e]; exact h0.1; exact h0.2
  have hlo2 : crQ a b (loQ c d) = 0 := by rcases (lo_end c d).1 with e | e <;> rw [e]; exact hc; exact hd
  have hhi2 : crQ a b (hiQ c d) = 0 := by rcases (lo_end c d).2 with e | e <;> rw [e]; exact hc; exact hd
  have o1 : OnQ a b (loQ a b) := by rcases (lo_end a b).1 with e | e <;> rw [e]; exact onQ_first a b; exact onQ_second a b
  have o2 : OnQ a b (hiQ a b) := by rcases (lo_end a b).2 with e | e <;> rw [e]; exact onQ_first a b; exact onQ_second a b
  have o3 : OnQ c d (loQ c d) := by rcases (lo_end c d).1 with e | e <;> rw [e]; exact onQ_first c d; exact onQ_second c d
  have o4 : OnQ c d (hiQ c d) := by rcases (lo_end c d).2 with e | e <;> rw [e]; exact onQ_first c d; exact onQ_second c d
  have e1 : EndQ a b c d (loQ a b) := by rcases (lo_end a b).1 with e | e <;> rw [e]; exact .inl rfl; exact .inr (.inl rfl)
  have e2 : EndQ a b c d (hiQ a b) := by rcases (lo_end a b).2 with e | e <;> rw [e]; exact .inl rfl; exact .inr (.inl rfl)
  have e3 : EndQ a b c d (loQ c d) := by rcases (lo_end c d).1 with e | e <;> rw [e]; exact .inr (.inr (.inl rfl)); exact .inr (.inr (.inr rfl))
  have e4 : EndQ a b c d (hiQ c d) := by rcases (lo_end c d).2 with e | e <;> rw [e]; exact .inr (.inr (.inl rfl)); exact .inr (.inr (.inr rfl))
  have hlo : ∃ lo, (EndQ a b c d lo ∧ Both a b c d lo) ∧ leQ lo p := by
    rcases leQ_total (loQ a b) (loQ c d) with k | k
    · exact ⟨loQ c d, ⟨e3, (onQ_lo hlo2).2 ⟨k, leQ_trans k3 k2⟩, o3⟩, k3⟩
    · exact ⟨loQ a b, ⟨e1, o1, (onQ_lo hlo1).2 ⟨k, leQ_trans k1 k4⟩⟩, k1⟩
  have hhi : ∃ hi, (EndQ a b c d hi ∧ Both a b c d hi) ∧ leQ p hi := by
    rcases leQ_total (hiQ a b) (hiQ c d) with k | k
    · exact ⟨hiQ a b, ⟨e2, o2, (onQ_lo hhi1).2 ⟨leQ_trans k3 k2, k⟩⟩, k2⟩
    · exact ⟨hiQ c d, ⟨e4, (onQ_lo hhi2).2 ⟨leQ_trans k1 k4, k⟩, o4⟩, k4⟩
  obtain ⟨lo, k5, k6⟩ := hlo
  obtain ⟨hi, k7, k8⟩ := hhi
  exact ⟨lo, hi, k5, k7, k6, k8⟩
/-- ways that lie apart by one number have nothing in common -/
theorem apart_x {a b c d : Qp} (h1 : a.x < c.x) (h2 : a.x < d.x) (h3 : b.x < c.x) (h4 : b.x < d.x) : IsMeet a b c d [] := by
  rintro p ⟨⟨-, k1, -⟩, -, k2, -⟩
  unfold btw at *
  grind
theorem apart_y {a b c d : Qp} (h1 : a.y < c.y) (h2 : a.y < d.y) (h3 : b.y < c.y) (h4 : b.y < d.y) : IsMeet a b c d [] := by
  rintro p ⟨⟨-, -, k1⟩, -, -, k2⟩
  unfold btw at *
  grind
theorem apart_x' {a b c d : Qp} (h1 : c.x < a.x) (h2 : d.x < a.x) (h3 : c.x < b.x) (h4 : d.x < b.x) : IsMeet a b c d [] := by
  rintro p ⟨⟨-, k1, -⟩, -, k2, -⟩
  unfold btw at *
  grind
theorem apart_y' {a b c d : Qp} (h1 : c.y < a.y) (h2 : d.y < a.y) (h3 : c.y < b.y) (h4 : d.y < b.y) : IsMeet a b c d [] := by
  rintro p ⟨⟨-, -, k1⟩, -, -, k2⟩
  unfold btw at *
  grind
end Go.Proofs.YtdmoibphidipeaaGreatDoor
/- Where ways meet, as mathematics: rows of spots by what they are worth, the cuts of a way, going through. No program is named here. -/

namespace Go.Proofs.YtdmoibphidipeaaGreatDoor
open rows

theorem ltQ_trans {p q r : Qp} (h : ltQ p q) (k : ltQ q r) : ltQ p r := by unfold ltQ at *; grind
/-- a row that rises is told by what is in it -/
theorem asc_unique : ∀ {L R : List Qp}, L.Pairwise ltQ → R.Pairwise ltQ → (∀ p, p ∈ L ↔ p ∈ R) → L = R
  | [], [], _, _, _ => rfl
  | [], y :: R, _, _, h => by have := (h y).2 (by simp); simp at this
  | x :: L, [], _, _, h => by have := (h x).1 (by simp); simp at this
  | x :: L, y :: R, hl, hr, h => by
    have hl' := List.pairwise_cons.1 hl
    have hr' := List.pairwise_cons.1 hr
    have e : x = y := by
      rcases List.mem_cons.1 ((h x).1 (by simp)) with e | e
      · exact e
      · rcases List.mem_cons.1 ((h y).2 (by simp)) with e2 | e2
        · exact e2.symm
        · exact absurd (ltQ_trans (hl'.1 y e2) (hr'.1 x e)) (fun c => ltQ_irrefl c)
    subst e
    have hrest : ∀ p, p ∈ L ↔ p ∈ R := fun p => by
      constructor
      · intro hp
        rcases List.mem_cons.1 ((h p).1 (List.mem_cons_of_mem _ hp)) with e | e
        · subst e; exact absurd (hl'.1 p hp) (fun c => ltQ_irrefl c)
        · exact e
      · intro hp
        rcases List.mem_cons.1 ((h p).2 (List.mem_cons_of_mem _ hp)) with e | e
        · subst e; exact absurd (hr'.1 p hp) (fun c => ltQ_irrefl c)
        · exact e
    rw [asc_unique hl'.2 hr'.2 hrest]
/-- what a comparison of indices has to do with what they are worth -/
structure Worth (cf : Nat → Nat → Int) (f : Nat → Qp) : Prop where
  lt : ∀ i j, cf i j < 0 ↔ ltQ (f i) (f j)
  eq : ∀ i j, cf i j = 0 ↔ f i = f j
theorem Worth.rising {cf : Nat → Nat → Int} {f : Nat → Qp} (h : Worth cf f) {l : List Nat} (k : Rising cf l) : (l.map f).Pairwise ltQ :=
  List.pairwise_map.2 (k.imp fun {a b} c => (h.lt a b).1 c)
/-- the program's Row by worth -/
theorem Worth.cut {cf : Nat → Nat → Int} {f : Nat → Qp} (h : Worth cf f) (o : Ord cf) {n : Nat} {s : List Nat} (hs : s.Pairwise (fun a b => cf a b ≤ 0)) (hlt : ∀ x ∈ s, x < n) (hall : ∀ i, i < n → i ∈ s) :
    ((rows.cut cf none s).map f).Pairwise ltQ ∧ ∀ p, p ∈ (rows.cut cf none s).map f ↔ ∃ i, i < n ∧ f i = p := by
  refine ⟨h.rising (cut_rising o s none hs), fun p => ?_⟩
  rw [List.mem_map]
  constructor
  · rintro ⟨a, ha, e⟩
    exact ⟨a, hlt a (cut_mem none s a ha), e⟩
  · rintro ⟨i, hi, e⟩
    rcases cut_has o s none i (hall i hi) with ⟨y, hy, k⟩ | ⟨q, k, -⟩
    · exact ⟨y, hy, by rw [← (h.eq i y).1 k, e]⟩
    · cases k
/-- the document's Row by worth -/
theorem Worth.row {cf : Nat → Nat → Int} {f : Nat → Qp} (h : Worth cf f) (o : Ord cf) (n : Nat) :
    ((rowR cf n).map f).Pairwise ltQ ∧ ∀ p, p ∈ (rowR cf n).map f ↔ ∃ i, i < n ∧ f i = p := by
  refine ⟨h.rising (rowR_rising o n), fun p => ?_⟩
  rw [List.mem_map]
  constructor
  · rintro ⟨a, ha, e⟩
    exact ⟨a, rowR_lt n a ha, e⟩
  · rintro ⟨i, hi, e⟩
    obtain ⟨y, hy, k⟩ := rowR_has o n i hi
    exact ⟨y, hy, by rw [← (h.eq i y).1 k, e]⟩
/-- what Meet answers of two ways, the second of which may not be -/
def MeetO (a b : Qp) (t : Option (Qp × Qp)) (R : List Qp) : Prop :=
  match t with
  | none => R = []
  | some (c, d) => IsMeet a b c d R
theorem MeetO.unique {a b : Qp} {t : Option (Qp × Qp)} {R R' : List Qp} (h : MeetO a b t R) (k : MeetO a b t R') : R = R' := by
  match t, h, k with
  | none, h, k => rw [h, k]
  | some (c, d), h, k => exact IsMeet.unique h k
/-- what is in a way's cuts: its ends, and what it has in common with each -/
def InCuts (a b : Qp) (T : List (Option (Qp × Qp))) (p : Qp) : Prop := p = a ∨ p = b ∨ ∃ t ∈ T, ∃ R, MeetO a b t R ∧ p ∈ R
/-- the row that Cuts answers -/
def IsCuts (a b : Qp) (T : List (Option (Qp × Qp))) (R : List Qp) : Prop := (∀ p, p ∈ R ↔ InCuts a b T p) ∧ (leQ a b → R.Pairwise ltQ) ∧ (¬ leQ a b → R.reverse.Pairwise ltQ)
theorem IsCuts.unique {a b : Qp} {T : List (Option (Qp × Qp))} {R R' : List Qp} (h : IsCuts a b T R) (k : IsCuts a b T R') : R = R' := by
  have hm : ∀ p, p ∈ R ↔ p ∈ R' := fun p => (h.1 p).trans (k.1 p).symm
  by_cases c : leQ a b
  · exact asc_unique (h.2.1 c) (k.2.1 c) hm
  · have := asc_unique (h.2.2 c) (k.2.2 c) (fun p => by rw [List.mem_reverse, List.mem_reverse]; exact hm p)
    exact List.reverse_inj.1 this
/-- a rising row of all cuts, turned where the way goes down -/
theorem IsCuts.of {a b : Qp} {T : List (Option (Qp × Qp))} {R : List Qp} (hs : R.Pairwise ltQ) (hm : ∀ p, p ∈ R ↔ InCuts a b T p) : (leQ a b → IsCuts a b T R) ∧ (¬ leQ a b → IsCuts a b T R.reverse) := by
  refine ⟨fun c => ⟨hm, fun _ => hs, fun n => absurd c n⟩, fun c => ⟨fun p => ?_, fun k => absurd k c, fun _ => ?_⟩⟩
  · rw [List.mem_reverse]; exact hm p
  · rw [List.reverse_reverse]; exact hs
/-- all that a way is cut at lies on it -/
theorem InCuts.on {a b : Qp} {T : List (Option (Qp × Qp))} {p : Qp} (h : InCuts a b T p) : OnQ a b p := by
  rcases h with rfl | rfl | ⟨t, -, R, h, k⟩
  · exact onQ_first p b
  · exact onQ_second a p
  · match t, h with
    | none, h => rw [h] at k; cases k
    | some (c, d), h => exact (IsMeet.on h p k).1
/-- the order in which one comes to points on a way: by their part of it -/
theorem part_order {a b : Qp} {s t : Rat} (hn : a ≠ b) : leQ a b → (s < t ↔ ltQ ⟨a.x + s * (b.x - a.x), a.y + s * (b.y - a.y)⟩ ⟨a.x + t * (b.x - a.x), a.y + t * (b.y - a.y)⟩) := by
  intro h
  have mono : ∀ u v d : Rat, 0 < d → (u < v ↔ u * d < v * d) := fun u v d hd => by
    constructor
    · intro k; exact Rat.mul_lt_mul_of_pos_right k hd
    · intro k
      apply Classical.byContradiction
      intro hc
      have := Rat.mul_le_mul_of_nonneg_right (show v ≤ u by grind) (show 0 ≤ d by grind)
      grind
  unfold ltQ
  dsimp only
  unfold leQ at h
  rcases h with h | ⟨h1, h2⟩
  · have k := mono s t (b.x - a.x) (by grind)
    have k2 := mono t s (b.x - a.x) (by grind)
    constructor
    · intro c; left; have := k.1 c; grind
    · rintro (c | ⟨c, c2⟩)
      · exact k.2 (by grind)
      · have e : ¬ s < t → ¬ t < s → s = t := by grind
        have e1 : ¬ s < t := fun x => by have := k.1 x; grind
        have e2 : ¬ t < s := fun x => by have := k2.1 x; grind
        have := e e1 e2
        subst this
        grind
  · have hy : a.y ≠ b.y := fun e => hn (Qp.ext' h1 e)
    have k := mono s t (b.y - a.y) (by grind)
    constructor
    · intro c; right; have := k.1 c; constructor <;> grind
    · rintro (c | ⟨c, c2⟩)
      · grind
      · exact k.2 (by grind)
end Go.Proofs.YtdmoibphidipeaaGreatDoor
/- Where ways meet, as mathematics: what fractions are worth, as rationals. No program is named here. -/

namespace Go.Proofs.YtdmoibphidipeaaGreatDoor
open Num

/-- what a fraction is worth -/
def qf (P : Int) (Q : Nat) : Rat := (P : Rat) / (Q : Rat)
theorem qf_mul {P : Int} {Q : Nat} (h : 0 < Q) : qf P Q * (Q : Rat) = (P : Rat) := by
  have h1 : (Q : Rat) ≠ 0 := by
    have : (0 : Rat) < (Q : Rat) := by exact_mod_cast h
    grind
  unfold qf
  grind
theorem nat_pos {Q : Nat} (h : 0 < Q) : (0 : Rat) < (Q : Rat) := by exact_mod_cast h
theorem qf_int (x : Int) : qf x 1 = (x : Rat) := by
  unfold qf
  rw [show ((1 : Nat) : Rat) = 1 from rfl]
  grind
theorem qf_lt {P P' : Int} {Q Q' : Nat} (h : 0 < Q) (h' : 0 < Q') : qf P Q < qf P' Q' ↔ P * (Q' : Int) - P' * (Q : Int) < 0 := by
  have e1 := qf_mul (P := P) h
  have e2 := qf_mul (P := P') h'
  have p1 := nat_pos h
  have p2 := nat_pos h'
  have key : (P * (Q' : Int) - P' * (Q : Int) < 0) ↔ ((P : Rat) * (Q' : Rat) - (P' : Rat) * (Q : Rat) < 0) := by
    constructor
    · intro k; exact_mod_cast k
    · intro k; exact_mod_cast k
  rw [key, ← e1, ← e2]
  generalize qf P Q = x
  generalize qf P' Q' = y
  have pp := Rat.mul_pos p1 p2
  constructor
  · intro k
    have := Rat.mul_lt_mul_of_pos_right k pp
    grind
  · intro k
    apply Classical.byContradiction
    intro hc
    have := Rat.mul_le_mul_of_nonneg_right (show y ≤ x by grind) (show 0 ≤ (Q : Rat) * (Q' : Rat) by grind)
    grind
theorem qf_eq {P P' : Int} {Q Q' : Nat} (h : 0 < Q) (h' : 0 < Q') : qf P Q = qf P' Q' ↔ P * (Q' : Int) - P' * (Q : Int) = 0 := by
  have a := qf_lt (P := P) (P' := P') h h'
  have b := qf_lt (P := P') (P' := P) h' h
  constructor
  · intro k
    have h1 : ¬ P * (Q' : Int) - P' * (Q : Int) < 0 := fun c => by have := a.2 c; grind
    have h2 : ¬ P' * (Q : Int) - P * (Q' : Int) < 0 := fun c => by have := b.2 c; grind
    omega
  · intro k
    have h1 : ¬ qf P Q < qf P' Q' := fun c => by have := a.1 c; omega
    have h2 : ¬ qf P' Q' < qf P Q := fun c => by have := b.1 c; omega
    grind
/-- a spot, exactly -/
def qs (P1 P2 : Int) (Q1 Q2 : Nat) : Qp := ⟨qf P1 Q1, qf P2 Q2⟩
theorem det_crQ {P1 P2 P3 P4 P5 P6 : Int} {Q1 Q2 Q3 Q4 Q5 Q6 : Nat} (h1 : 0 < Q1) (h2 : 0 < Q2) (h3 : 0 < Q3) (h4 : 0 < Q4) (h5 : 0 < Q5) (h6 : 0 < Q6) :
    ((det P1 P2 P3 P4 P5 P6 Q1 Q2 Q3 Q4 Q5 Q6 : Int) : Rat) = crQ (qs P1 P2 Q1 Q2) (qs P3 P4 Q3 Q4) (qs P5 P6 Q5 Q6) * ((Q1 : Rat) * Q2 * Q3 * Q4 * Q5 * Q6) := by
  have e1 := qf_mul (P := P1) h1
  have e2 := qf_mul (P := P2) h2
  have e3 := qf_mul (P := P3) h3
  have e4 := qf_mul (P := P4) h4
  have e5 := qf_mul (P := P5) h5
  have e6 := qf_mul (P := P6) h6
  unfold det crQ qs
  dsimp only
  simp only [Rat.intCast_sub, Rat.intCast_mul, Rat.intCast_natCast]
  rw [← e1, ← e2, ← e3, ← e4, ← e5, ← e6]
  generalize qf P1 Q1 = x1
  generalize qf P2 Q2 = x2
  generalize qf P3 Q3 = x3
  generalize qf P4 Q4 = x4
  generalize qf P5 Q5 = x5
  generalize qf P6 Q6 = x6
  grind
theorem det_zero {P1 P2 P3 P4 P5 P6 : Int} {Q1 Q2 Q3 Q4 Q5 Q6 : Nat} (h1 : 0 < Q1) (h2 : 0 < Q2) (h3 : 0 < Q3) (h4 : 0 < Q4) (h5 : 0 < Q5) (h6 : 0 < Q6) :
    det P1 P2 P3 P4 P5 P6 Q1 Q2 Q3 Q4 Q5 Q6 = 0 ↔ crQ (qs P1 P2 Q1 Q2) (qs P3 P4 Q3 Q4) (qs P5 P6 Q5 Q6) = 0 := by
  have e := det_crQ (P1 := P1) (P2 := P2) (P3 := P3) (P4 := P4) (P5 := P5) (P6 := P6) h1 h2 h3 h4 h5 h6
  have pp : (Q1 : Rat) * Q2 * Q3 * Q4 * Q5 * Q6 ≠ 0 := by
    have := Rat.mul_pos (Rat.mul_pos (Rat.mul_pos (Rat.mul_pos (Rat.mul_pos (nat_pos h1) (nat_pos h2)) (nat_pos h3)) (nat_pos h4)) (nat_pos h5)) (nat_pos h6)
    grind
  constructor
  · intro k
    rw [k] at e
    rcases Rat.mul_eq_zero.1 e.symm with h | h
    · exact h
    · exact absurd h pp
  · intro k
    rw [k] at e
    have e2 : ((det P1 P2 P3 P4 P5 P6 Q1 Q2 Q3 Q4 Q5 Q6 : Int) : Rat) = 0 := by grind
    exact_mod_cast e2
theorem btw_sgn {P P' R : Int} {Q Q' T : Nat} (h : 0 < Q) (h' : 0 < Q') (ht : 0 < T) : btw (qf P Q) (qf P' Q') (qf R T) ↔ sgn (P * (T : Int) - R * (Q : Int)) * sgn (P' * (T : Int) - R * (Q' : Int)) ≤ 0 := by
  have a1 := qf_lt (P := P) (P' := R) h ht
  have a2 := qf_eq (P := P) (P' := R) h ht
  have b1 := qf_lt (P := P') (P' := R) h' ht
  have b2 := qf_eq (P := P') (P' := R) h' ht
  generalize P * (T : Int) - R * (Q : Int) = u at *
  generalize P' * (T : Int) - R * (Q' : Int) = v at *
  generalize qf P Q = x at *
  generalize qf P' Q' = y at *
  generalize qf R T = z at *
  unfold btw sgn
  by_cases c1 : u < 0
  · have d1 := a1.2 c1
    rw [if_pos c1]
    by_cases c2 : v < 0
    · have d2 := b1.2 c2
      rw [if_pos c2]
      constructor
      · intro k; grind
      · intro k; omega
    · rw [if_neg c2]
      have d2 : ¬ y < z := fun k => c2 (b1.1 k)
      by_cases c3 : 0 < v
      · rw [if_pos c3]
        constructor
        · intro _; omega
        · intro _; left; grind
      · rw [if_neg c3]
        constructor
        · intro _; omega
        · intro _; left; grind
  · rw [if_neg c1]
    have d1 : ¬ x < z := fun k => c1 (a1.1 k)
    by_cases c4 : 0 < u
    · rw [if_pos c4]
      have d3 : ¬ x = z := fun k => by have := a2.1 k; omega
      by_cases c2 : v < 0
      · have d2 := b1.2 c2
        rw [if_pos c2]
        constructor
        · intro _; omega
        · intro _; right; grind
      · rw [if_neg c2]
        have d2 : ¬ y < z := fun k => c2 (b1.1 k)
        by_cases c3 : 0 < v
        · rw [if_pos c3]
          have d4 : ¬ y = z := fun k => by have := b2.1 k; omega
          constructor
          · intro k; grind
          · intro k; omega
        · rw [if_neg c3]
          have d4 : y = z := b2.2 (by omega)
          constructor
          · intro _; omega
          · intro _; right; grind
    · rw [if_neg c4]
      have d3 : x = z := a2.2 (by omega)
      constructor
      · intro _; omega
      · intro _
        rcases (show y ≤ z ∨ z ≤ y by grind) with k | k
        · right; grind
        · left; grind
/-- what both On ask is to lie on the way -/
theorem onB_iff {P1 P2 P3 P4 P5 P6 : Int} {Q1 Q2 Q3 Q4 Q5 Q6 : Nat} (h1 : 0 < Q1) (h2 : 0 < Q2) (h3 : 0 < Q3) (h4 : 0 < Q4) (h5 : 0 < Q5) (h6 : 0 < Q6) :
    onB P1 P2 P3 P4 P5 P6 Q1 Q2 Q3 Q4 Q5 Q6 = true ↔ OnQ (qs P1 P2 Q1 Q2) (qs P3 P4 Q3 Q4) (qs P5 P6 Q5 Q6) := by
  have hz : sgn (det P1 P2 P3 P4 P5 P6 Q1 Q2 Q3 Q4 Q5 Q6) = 0 ↔ det P1 P2 P3 P4 P5 P6 Q1 Q2 Q3 Q4 Q5 Q6 = 0 := sgn_zero
  have hd := det_zero (P1 := P1) (P2 := P2) (P3 := P3) (P4 := P4) (P5 := P5) (P6 := P6) h1 h2 h3 h4 h5 h6
  have hx := btw_sgn (P := P1) (P' := P3) (R := P5) h1 h3 h5
  have hy := btw_sgn (P := P2) (P' := P4) (R := P6) h2 h4 h6
  unfold onB OnQ
  rw [Bool.and_eq_true, beq_iff_eq, decide_eq_true_iff, hz, ← hd]
  show _ ↔ _ ∧ btw (qf P1 Q1) (qf P3 Q3) (qf P5 Q5) ∧ btw (qf P2 Q2) (qf P4 Q4) (qf P6 Q6)
  constructor
  · rintro ⟨k1, k2⟩
    have k3 := (on_same h1 h2 h3 h4 (hz.2 k2)).1 k1
    exact ⟨k2, hx.2 k3.1, hy.2 k3.2⟩
  · rintro ⟨k1, k2, k3⟩
    exact ⟨(on_same h1 h2 h3 h4 (hz.2 k1)).2 ⟨hx.1 k2, hy.1 k3⟩, k1⟩
/-- the order of spots -/
theorem lex_lt {P1 P2 P3 P4 : Int} {Q1 Q2 Q3 Q4 : Nat} (h1 : 0 < Q1) (h2 : 0 < Q2) (h3 : 0 < Q3) (h4 : 0 < Q4) :
    (lex (sgn (P1 * (Q3 : Int) - P3 * (Q1 : Int))) (sgn (P2 * (Q4 : Int) - P4 * (Q2 : Int))) < 0 ↔ ltQ (qs P1 P2 Q1 Q2) (qs P3 P4 Q3 Q4)) ∧ (lex (sgn (P1 * (Q3 : Int) - P3 * (Q1 : Int))) (sgn (P2 * (Q4 : Int) - P4 * (Q2 : Int))) = 0 ↔ qs P1 P2 Q1 Q2 = qs P3 P4 Q3 Q4) := by
  have a1 := qf_lt (P := P1) (P' := P3) h1 h3
  have a2 := qf_eq (P := P1) (P' := P3) h1 h3
  have b1 := qf_lt (P := P2) (P' := P4) h2 h4
  have b2 := qf_eq (P := P2) (P' := P4) h2 h4
  have s : ∀ x : Int, (sgn x < 0 ↔ x < 0) ∧ (sgn x = 0 ↔ x = 0) := fun x => by
    unfold sgn
    by_cases c : x < 0
    · rw [if_pos c]; omega
    · rw [if_neg c]
      by_cases c2 : 0 < x
      · rw [if_pos c2]; omega
      · rw [if_neg c2]; omega
  unfold lex ltQ qs
  dsimp only
  generalize P1 * (Q3 : Int) - P3 * (Q1 : Int) = u at *
  generalize P2 * (Q4 : Int) - P4 * (Q2 : Int) = v at *
  rw [a1, a2, b1]
  by_cases c : sgn u = 0
  · rw [if_pos c]
    have c0 := (s u).2.1 c
    refine ⟨?_, ?_⟩
    · rw [(s v).1]
      constructor
      · exact fun k => .inr ⟨c0, k⟩
      · rintro (k | k)
        · omega
        · exact k.2
    · rw [(s v).2]
      constructor
      · intro k
        rw [a2.2 c0, b2.2 k]
      · intro k
        injection k with k1 k2
        exact b2.1 k2
  · rw [if_neg c]
    have c0 : ¬ u = 0 := fun k => c ((s u).2.2 k)
    refine ⟨?_, ?_⟩
    · rw [(s u).1]
      constructor
      · exact .inl
      · rintro (k | k)
        · exact k
        · exact absurd k.1 c0
    · constructor
      · intro k; exact absurd k c
      · intro k
        injection k with k1 k2
        exact absurd (a2.1 k1) c0
end Go.Proofs.YtdmoibphidipeaaGreatDoor
/- Where ways meet: spots as they lie in memory by what they are worth. -/

namespace Go.Proofs.YtdmoibphidipeaaGreatDoor
open Go.RowKit Num rows

/-- what a spot is worth -/
def sw (s : Sp) : Qp := qs (upN s.n1 s.a1 s.d1) (upN s.n2 s.a2 s.d2) (loD s.d1) (loD s.d2)
/-- a spot of reduced fractions of at most M words -/
def Sp.Red (M : Nat) (s : Sp) : Prop := SG (upN s.n1 s.a1 s.d1) (loD s.d1) M s.n1 s.a1 s.c1 s.d1 s.e1 ∧ SG (upN s.n2 s.a2 s.d2) (loD s.d2) M s.n2 s.a2 s.c2 s.d2 s.e2
theorem qf_of {P P' : Int} {Q Q' : Nat} (h : 0 < Q) (h' : 0 < Q') (k : P * (Q' : Int) = P' * (Q : Int)) : qf P Q = qf P' Q' := (qf_eq h h').2 (by omega)
theorem of_qf {P P' : Int} {Q Q' : Nat} (h : 0 < Q) (h' : 0 < Q') (k : qf P Q = qf P' Q') : P * (Q' : Int) = P' * (Q : Int) := by have := (qf_eq h h').1 k; omega
theorem SV.worth {P : Int} {Q m : Nat} (hQ : 0 < Q) {n : Bool} {a d : List Nat} {ca cd : Nat} (k : SV P Q m n a ca d cd) : qf (upN n a d) (loD d) = qf P Q := qf_of (loD_pos d) hQ k.2.2.2.2.2.2
theorem SG.worth {P : Int} {Q m : Nat} (hQ : 0 < Q) {n : Bool} {a d : List Nat} {ca cd : Nat} (k : SG P Q m n a ca d cd) : qf (upN n a d) (loD d) = qf P Q := SV.worth hQ (SG.toV hQ k)
theorem SG.red {P : Int} {Q m : Nat} (hQ : 0 < Q) {n : Bool} {a d : List Nat} {ca cd : Nat} (k : SG P Q m n a ca d cd) : SG (upN n a d) (loD d) m n a ca d cd := ⟨k.1.conv hQ (loD_pos d) (of_qf hQ (loD_pos d) (SG.worth hQ k).symm), k.2⟩
/-- a spot of two reduced fractions -/
theorem red_spot {P P' : Int} {Q Q' M : Nat} (hQ : 0 < Q) (hQ' : 0 < Q') {s : Sp} (k : SG P Q M s.n1 s.a1 s.c1 s.d1 s.e1) (k' : SG P' Q' M s.n2 s.a2 s.c2 s.d2 s.e2) : s.Red M ∧ sw s = qs P P' Q Q' :=
  ⟨⟨SG.red hQ k, SG.red hQ' k'⟩, by unfold sw qs; rw [SG.worth hQ k, SG.worth hQ' k']⟩
theorem Sp.Red.sh {M : Nat} {s : Sp} (h : s.Red M) : s.Sh M := ⟨SV.own (SG.toV (loD_pos _) h.1), SV.own (SG.toV (loD_pos _) h.2)⟩
theorem Is.worth {L : List Sp} {M i : Nat} {s : Sp} (h : Is L M i s) : s.Red M ∧ sw s = sw (L.getD i default) := red_spot (loD_pos _) (loD_pos _) h.1 h.2
theorem cmpS_worth (s t : Sp) : (cmpS s t < 0 ↔ ltQ (sw s) (sw t)) ∧ (cmpS s t = 0 ↔ sw s = sw t) := by
  unfold cmpS sw
  exact lex_lt (loD_pos _) (loD_pos _) (loD_pos _) (loD_pos _)
theorem worth_cfL (L : List Sp) : Worth (cfL L) (fun i => sw (L.getD i default)) := ⟨fun _ _ => (cmpS_worth _ _).1, fun _ _ => (cmpS_worth _ _).2⟩
/-- spots of one worth are words for words the same -/
theorem red_same {M M' : Nat} {s t : Sp} (h : s.Red M) (k : t.Red M') (e : sw s = sw t) : (s.n1 = t.n1 ∧ s.a1 = t.a1 ∧ s.d1 = t.d1) ∧ s.n2 = t.n2 ∧ s.a2 = t.a2 ∧ s.d2 = t.d2 := by
  unfold sw qs at e
  injection e with e1 e2
  have k1 := of_qf (loD_pos _) (loD_pos _) e1
  have k2 := of_qf (loD_pos _) (loD_pos _) e2
  exact ⟨SG.same (m := M) ⟨h.1.1.conv (loD_pos _) (loD_pos _) k1, h.1.2⟩ k.1, SG.same (m := M) ⟨h.2.1.conv (loD_pos _) (loD_pos _) k2, h.2.2⟩ k.2⟩
/-- a row of reduced spots, by what they are worth -/
def RowW (M : Nat) (w : World) (xs : List Sp) (R : List Qp) : Prop := xs.map sw = R ∧ ∀ s ∈ xs, s.Red M ∧ s.Ok w
theorem RowW.nil (M : Nat) (w : World) : RowW M w [] [] := ⟨rfl, fun s h => by cases h⟩
theorem RowW.on {M : Nat} {w w' : World} {xs : List Sp} {R : List Qp} (h : RowW M w xs R) (b : Below w.heap.size w w') : RowW M w' xs R := ⟨h.1, fun s hs => ⟨(h.2 s hs).1, (h.2 s hs).2.on b⟩⟩
theorem RowW.imp {M : Nat} {w w' : World} {xs : List Sp} {R : List Qp} (h : RowW M w xs R) (k : ∀ s : Sp, s.Ok w → s.Ok w') : RowW M w' xs R := ⟨h.1, fun s hs => ⟨(h.2 s hs).1, k s (h.2 s hs).2⟩⟩
theorem RowW.length {M : Nat} {w : World} {xs : List Sp} {R : List Qp} (h : RowW M w xs R) : xs.length = R.length := by rw [← h.1, List.length_map]
theorem RowW.append {M : Nat} {w : World} {xs ys : List Sp} {R R' : List Qp} (h : RowW M w xs R) (k : RowW M w ys R') : RowW M w (xs ++ ys) (R ++ R') :=
  ⟨by rw [List.map_append, h.1, k.1], fun s hs => (List.mem_append.1 hs).elim (h.2 s) (k.2 s)⟩
theorem RowW.snoc {M : Nat} {w : World} {xs : List Sp} {R : List Qp} (h : RowW M w xs R) {x : Sp} {p : Qp} (hx : x.Red M) (ho : x.Ok w) (e : sw x = p) : RowW M w (xs ++ [x]) (R ++ [p]) :=
  h.append ⟨by rw [List.map_cons, e, List.map_nil], fun s hs => by rw [List.mem_singleton] at hs; subst hs; exact ⟨hx, ho⟩⟩
theorem RowW.rev {M : Nat} {w : World} {xs : List Sp} {R : List Qp} (h : RowW M w xs R) : RowW M w xs.reverse R.reverse := ⟨by rw [List.map_reverse, h.1], fun s hs => h.2 s (List.mem_reverse.1 hs)⟩
theorem RowW.get {M : Nat} {w : World} {xs : List Sp} {R : List Qp} (h : RowW M w xs R) (i : Nat) (hi : i < xs.length) (hr : i < R.length) : xs[i].Red M ∧ xs[i].Ok w ∧ sw xs[i] = R[i] := by
  refine ⟨(h.2 _ (List.getElem_mem hi)).1, (h.2 _ (List.getElem_mem hi)).2, ?_⟩
  obtain ⟨h1, -⟩ := h
  subst h1
  rw [List.getElem_map]
/-- what a call of Row hands back, by what it is worth -/
theorem Fits.worth {L : List Sp} {M : Nat} {w : World} {O : List Nat} {xs : List Sp} (h : Fits L M w O xs) : RowW M w xs (O.map fun i => sw (L.getD i default)) := by
  refine ⟨?_, fun s hs => ?_⟩
  · refine List.ext_getElem (by rw [List.length_map, List.length_map, h.1]) fun k h1 h2 => ?_
    rw [List.length_map] at h1 h2
    rw [List.getElem_map, List.getElem_map]
    exact (h.2 k h2 h1).1.worth.2
  · obtain ⟨k, hk, e⟩ := List.mem_iff_getElem.1 hs
    have := h.2 k (by rw [h.1]; exact hk) hk
    rw [e] at this
    exact ⟨this.1.worth.1, this.2⟩
theorem mem_sw (L : List Sp) (p : Qp) : (∃ i, i < L.length ∧ sw (L.getD i default) = p) ↔ p ∈ L.map sw := by
  rw [List.mem_map]
  constructor
  · rintro ⟨i, hi, e⟩
    refine ⟨L[i], List.getElem_mem hi, ?_⟩
    rwa [List.getD_eq_getElem?_getD, List.getElem?_eq_getElem hi] at e
  · rintro ⟨s, hs, e⟩
    obtain ⟨i, hi, e2⟩ := List.mem_iff_getElem.1 hs
    refine ⟨i, hi, ?_⟩
    rw [List.getD_eq_getElem?_getD, List.getElem?_eq_getElem hi]
    show sw L[i] = p
    rw [e2]; exact e
/-- the document's Row -/
theorem row_worth {L : List Sp} (o : Ord (cfL L)) {M : Nat} {w : World} {xs : List Sp} (h : Fits L M w (rowR (cfL L) L.length) xs) : ∃ R, RowW M w xs R ∧ R.Pairwise ltQ ∧ ∀ p, p ∈ R ↔ p ∈ L.map sw := by
  obtain ⟨h1, h2⟩ := (worth_cfL L).row o L.length
  exact ⟨_, h.worth, h1, fun p => (h2 p).trans (mem_sw L p)⟩
/-- the program's Row -/
theorem cut_worth {L : List Sp} (o : Ord (cfL L)) {M : Nat} {w : World} {s : List Nat} {xs : List Sp} (hs : s.Pairwise (fun a b => cfL L a b ≤ 0)) (hlt : ∀ x ∈ s, x < L.length) (hall : ∀ i, i < L.length → i ∈ s) (h : Fits L M w (rows.cut (cfL L) none s) xs) : ∃ R, RowW M w xs R ∧ R.Pairwise ltQ ∧ ∀ p, p ∈ R ↔ p ∈ L.map sw := by
  obtain ⟨h1, h2⟩ := (worth_cfL L).cut o hs hlt hall
  exact ⟨_, h.worth, h1, fun p => (h2 p).trans (mem_sw L p)⟩
end Go.Proofs.YtdmoibphidipeaaGreatDoor
