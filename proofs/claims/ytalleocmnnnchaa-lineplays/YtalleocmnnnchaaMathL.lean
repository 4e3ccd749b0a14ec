/-
  Layer 7, in plain mathematics: rising lists of places, and what is done to them.
-/
import Derived.Lib.SlicesCompact
namespace Go.Proofs.Ytalleocmnnnchaa
namespace Ln

/-- places rise, each once -/
def Up (l : List Int) : Prop := l.Pairwise (· < ·)

theorem up_ext : ∀ {a b : List Int}, Up a → Up b → (∀ x, x ∈ a ↔ x ∈ b) → a = b
  | [], [], _, _, _ => rfl
  | [], y :: b, _, _, h => by have := (h y).2 (by simp); simp at this
  | x :: a, [], _, _, h => by have := (h x).1 (by simp); simp at this
  | x :: a, y :: b, ha, hb, h => by
    have hx := List.pairwise_cons.1 ha
    have hy := List.pairwise_cons.1 hb
    have e : x = y := by
      rcases List.mem_cons.1 ((h x).1 (by simp)) with e | e
      · exact e
      · have h1 := hy.1 x e
        rcases List.mem_cons.1 ((h y).2 (by simp)) with e2 | e2
        · exact e2.symm
        · have h2 := hx.1 y e2; omega
    subst e
    congr 1
    refine up_ext hx.2 hy.2 fun z => ⟨fun hz => ?_, fun hz => ?_⟩
    · rcases List.mem_cons.1 ((h z).1 (List.mem_cons_of_mem _ hz)) with e2 | e2
      · have := hx.1 z hz; omega
      · exact e2
    · rcases List.mem_cons.1 ((h z).2 (List.mem_cons_of_mem _ hz)) with e2 | e2
      · have := hy.1 z hz; omega
      · exact e2

theorem up_le {l : List Int} (h : Up l) : l.Pairwise (· ≤ ·) := h.imp (fun h => Int.le_of_lt h)

/-! The model's lists. -/
def mark (l : List Int) (q : Int) : List Int := l.filter (fun x => decide (x < q)) ++ q :: l.filter (fun x => decide (q < x))
def loseBad (l : List Int) (q : Int) : List Int := l.filter (fun x => decide (x < q)) ++ (l.filter (fun x => decide (q < x))).map (fun x => x - 1)
def loseGap (l : List Int) (q : Int) : List Int := l.filter (fun x => decide (x < q)) ++ q :: (l.filter (fun x => decide (q + 1 < x))).map (fun x => x - 1)
def addBad (l : List Int) (q : Int) : List Int := l.filter (fun x => decide (x < q)) ++ q :: (l.filter (fun x => decide (q ≤ x))).map (fun x => x + 1)
def addGap (l : List Int) (q : Int) : List Int := l.filter (fun x => decide (x ≤ q)) ++ (l.filter (fun x => decide (q < x))).map (fun x => x + 1)

theorem mem_mark {l : List Int} {q x : Int} : x ∈ mark l q ↔ x = q ∨ (x ∈ l ∧ x ≠ q) := by
  simp only [mark, List.mem_append, List.mem_cons, List.mem_filter, decide_eq_true_eq]
  constructor
  · rintro (⟨h, h2⟩ | h | ⟨h, h2⟩)
    · exact .inr ⟨h, by omega⟩
    · exact .inl h
    · exact .inr ⟨h, by omega⟩
  · rintro (h | ⟨h, h2⟩)
    · exact .inr (.inl h)
    · rcases Int.lt_or_gt_of_ne h2 with h3 | h3
      · exact .inl ⟨h, h3⟩
      · exact .inr (.inr ⟨h, h3⟩)
theorem mem_mark' {l : List Int} {q x : Int} : x ∈ mark l q ↔ x = q ∨ x ∈ l := by
  rw [mem_mark]
  constructor
  · rintro (h | h)
    · exact .inl h
    · exact .inr h.1
  · intro h
    by_cases e : x = q
    · exact .inl e
    · exact .inr ⟨h.resolve_left e, e⟩
theorem mem_loseBad {l : List Int} {q x : Int} : x ∈ loseBad l q ↔ (x ∈ l ∧ x < q) ∨ (x + 1 ∈ l ∧ q ≤ x) := by
  simp only [loseBad, List.mem_append, List.mem_map, List.mem_filter, decide_eq_true_eq]
  constructor
  · rintro (h | ⟨y, ⟨h, h2⟩, rfl⟩)
    · exact .inl h
    · exact .inr ⟨by rw [show y - 1 + 1 = y by omega]; exact h, by omega⟩
  · rintro (h | ⟨h, h2⟩)
    · exact .inl h
    · exact .inr ⟨x + 1, ⟨h, by omega⟩, by omega⟩
theorem mem_loseGap {l : List Int} {q x : Int} : x ∈ loseGap l q ↔ (x ∈ l ∧ x < q) ∨ x = q ∨ (x + 1 ∈ l ∧ q < x) := by
  simp only [loseGap, List.mem_append, List.mem_cons, List.mem_map, List.mem_filter, decide_eq_true_eq]
  constructor
  · rintro (h | h | ⟨y, ⟨h, h2⟩, rfl⟩)
    · exact .inl h
    · exact .inr (.inl h)
    · exact .inr (.inr ⟨by rw [show y - 1 + 1 = y by omega]; exact h, by omega⟩)
  · rintro (h | h | ⟨h, h2⟩)
    · exact .inl h
    · exact .inr (.inl h)
    · exact .inr (.inr ⟨x + 1, ⟨h, by omega⟩, by omega⟩)
theorem mem_addBad {l : List Int} {q x : Int} : x ∈ addBad l q ↔ (x ∈ l ∧ x < q) ∨ x = q ∨ (x - 1 ∈ l ∧ q < x) := by
  simp only [addBad, List.mem_append, List.mem_cons, List.mem_map, List.mem_filter, decide_eq_true_eq]
  constructor
  · rintro (h | h | ⟨y, ⟨h, h2⟩, rfl⟩)
    · exact .inl h
    · exact .inr (.inl h)
    · exact .inr (.inr ⟨by rw [show y + 1 - 1 = y by omega]; exact h, by omega⟩)
  · rintro (h | h | ⟨h, h2⟩)
    · exact .inl h
    · exact .inr (.inl h)
    · exact .inr (.inr ⟨x - 1, ⟨h, by omega⟩, by omega⟩)
theorem mem_addGap {l : List Int} {q x : Int} : x ∈ addGap l q ↔ (x ∈ l ∧ x ≤ q) ∨ (x - 1 ∈ l ∧ q + 1 < x) := by
  simp only [addGap, List.mem_append, List.mem_map, List.mem_filter, decide_eq_true_eq]
  constructor
  · rintro (h | ⟨y, ⟨h, h2⟩, rfl⟩)
    · exact .inl h
    · exact .inr ⟨by rw [show y + 1 - 1 = y by omega]; exact h, by omega⟩
  · rintro (h | ⟨h, h2⟩)
    · exact .inl h
    · exact .inr ⟨x - 1, ⟨h, by omega⟩, by omega⟩

theorem up_filter {l : List Int} (h : Up l) (p : Int → Bool) : Up (l.filter p) := h.filter p
theorem up_map {l : List Int} (h : Up l) (f : Int → Int) (hf : ∀ x ∈ l, ∀ y ∈ l, x < y → f x < f y) : Up (l.map f) := by
  unfold Up at *
  rw [List.pairwise_map]
  exact h.imp_of_mem fun {a b} ha hb hab => hf a ha b hb hab
theorem up_mid {a b : List Int} {q : Int} (ha : Up a) (hb : Up b) (h1 : ∀ x ∈ a, x < q) (h2 : ∀ x ∈ b, q < x) : Up (a ++ q :: b) := by
  unfold Up at *
  rw [List.pairwise_append]
  refine ⟨ha, List.pairwise_cons.2 ⟨h2, hb⟩, fun x hx y hy => ?_⟩
  rcases List.mem_cons.1 hy with e | e
  · rw [e]; exact h1 x hx
  · have := h1 x hx; have := h2 y e; omega
theorem up_two {a b : List Int} (ha : Up a) (hb : Up b) (h : ∀ x ∈ a, ∀ y ∈ b, x < y) : Up (a ++ b) := List.pairwise_append.2 ⟨ha, hb, h⟩

theorem up_mark {l : List Int} (h : Up l) (q : Int) : Up (mark l q) :=
  up_mid (up_filter h _) (up_filter h _) (fun x hx => by simpa using (List.mem_filter.1 hx).2) (fun x hx => by simpa using (List.mem_filter.1 hx).2)
theorem up_loseBad {l : List Int} (h : Up l) (q : Int) : Up (loseBad l q) :=
  up_two (up_filter h _) (up_map (up_filter h _) _ (fun x _ y _ hxy => by omega)) (fun x hx y hy => by
    obtain ⟨z, hz, rfl⟩ := List.mem_map.1 hy
    have h1 := (List.mem_filter.1 hx).2
    have h2 := (List.mem_filter.1 hz).2
    simp at h1 h2; omega)
theorem up_loseGap {l : List Int} (h : Up l) (q : Int) : Up (loseGap l q) :=
  up_mid (up_filter h _) (up_map (up_filter h _) _ (fun x _ y _ hxy => by omega)) (fun x hx => by simpa using (List.mem_filter.1 hx).2) (fun x hx => by
    obtain ⟨z, hz, rfl⟩ := List.mem_map.1 hx
    have h2 := (List.mem_filter.1 hz).2
    simp at h2; omega)
theorem up_addBad {l : List Int} (h : Up l) (q : Int) : Up (addBad l q) :=
  up_mid (up_filter h _) (up_map (up_filter h _) _ (fun x _ y _ hxy => by omega)) (fun x hx => by simpa using (List.mem_filter.1 hx).2) (fun x hx => by
    obtain ⟨z, hz, rfl⟩ := List.mem_map.1 hx
    have h2 := (List.mem_filter.1 hz).2
    simp at h2; omega)
theorem up_addGap {l : List Int} (h : Up l) (q : Int) : Up (addGap l q) :=
  up_two (up_filter h _) (up_map (up_filter h _) _ (fun x _ y _ hxy => by omega)) (fun x hx y hy => by
    obtain ⟨z, hz, rfl⟩ := List.mem_map.1 hy
    have h1 := (List.mem_filter.1 hx).2
    have h2 := (List.mem_filter.1 hz).2
    simp at h1 h2; omega)

/-! A place put in where it belongs. -/
theorem countP_split : ∀ {l : List Int} (_ : Up l) (q : Int), l.take (l.countP (fun x => decide (x < q))) = l.filter (fun x => decide (x < q)) ∧ l.drop (l.countP (fun x => decide (x < q))) = l.filter (fun x => decide (q ≤ x))
  | [], _, _ => ⟨rfl, rfl⟩
  | x :: l, h, q => by
    have hx := List.pairwise_cons.1 h
    by_cases hq : x < q
    · obtain ⟨h1, h2⟩ := countP_split hx.2 q
      have e : ¬ q ≤ x := by omega
      rw [List.countP_cons_of_pos (by simpa using hq), List.filter_cons_of_pos (by simpa using hq), List.filter_cons_of_neg (by simpa using hq)]
      exact ⟨by rw [List.take_succ_cons, h1], by rw [List.drop_succ_cons, h2]⟩
    · have hno : ∀ y ∈ l, ¬ y < q := fun y hy => by have := hx.1 y hy; omega
      have e0 : l.countP (fun x => decide (x < q)) = 0 := List.countP_eq_zero.2 (fun y hy => by simpa using hno y hy)
      rw [List.countP_cons_of_neg (by simpa using hq), e0, List.filter_cons_of_neg (by simpa using hq), List.filter_cons_of_pos (by simp; omega)]
      refine ⟨?_, ?_⟩
      · rw [List.take_zero]
        exact (List.filter_eq_nil_iff.2 (fun y hy => by simpa using hno y hy)).symm
      · rw [List.drop_zero, List.filter_eq_self.2 (fun y hy => by have := hno y hy; simp; omega)]
theorem mark_new {l : List Int} (h : Up l) {q : Int} (hq : q ∉ l) : l.take (l.countP (fun x => decide (x < q))) ++ q :: l.drop (l.countP (fun x => decide (x < q))) = mark l q := by
  obtain ⟨h1, h2⟩ := countP_split h q
  rw [h1, h2]
  unfold mark
  congr 2
  exact List.filter_congr fun x hx => by
    have : x ≠ q := fun e => hq (e ▸ hx)
    simp; omega
theorem mark_old {l : List Int} (h : Up l) {q : Int} (hq : q ∈ l) : mark l q = l :=
  up_ext (up_mark h q) h fun x => by
    rw [mem_mark']
    exact ⟨fun e => e.elim (fun e => e ▸ hq) id, .inr⟩

/-! slices.Compact of a list that does not fall. -/
theorem compact_step (l : List Int) (m : Nat) (hm : m < l.length) : Lib.compactUpTo l.toArray (m + 1) = Lib.compactUpTo l.toArray m ++ (if m = 0 ∨ l[m] ≠ l[m - 1] then [l[m]] else []) := by
  rw [Lib.compactUpTo_succ]
  have e1 : l.toArray[m]! = l[m] := by simp [getElem!_pos, hm]
  have e2 : l.toArray[m - 1]! = l[m - 1] := by simp [getElem!_pos, show m - 1 < l.length by omega]
  have e3 : Lib.keeps l.toArray m = decide (m = 0 ∨ l[m] ≠ l[m - 1]) := by unfold Lib.keeps; rw [e1, e2]
  rw [e1, e3]
  congr 1
  by_cases h : m = 0 ∨ l[m] ≠ l[m - 1] <;> simp [h]
/-- the first m: they rise, their members are those of the first m, the last one is the last -/
theorem compact_inv (l : List Int) (hl : l.Pairwise (· ≤ ·)) : ∀ m, m ≤ l.length → Up (Lib.compactUpTo l.toArray m) ∧ (∀ x, x ∈ Lib.compactUpTo l.toArray m ↔ x ∈ l.take m)
  | 0, _ => ⟨by simp [Lib.compactUpTo, Up], fun x => by simp [Lib.compactUpTo]⟩
  | m + 1, hm => by
    obtain ⟨h1, h2⟩ := compact_inv l hl m (by omega)
    rw [compact_step l m (by omega)]
    have ht : l.take (m + 1) = l.take m ++ [l[m]] := by rw [List.take_succ_eq_append_getElem (by omega)]
    by_cases hk : m = 0 ∨ l[m] ≠ l[m - 1]
    · rw [if_pos hk]
      refine ⟨up_two h1 (List.pairwise_singleton _ _) fun x hx y hy => ?_, fun x => ?_⟩
      · rw [List.mem_singleton] at hy
        subst hy
        have hx2 := (h2 x).1 hx
        obtain ⟨j, hj, rfl⟩ := List.mem_iff_getElem.1 hx2
        rw [List.length_take] at hj
        rw [List.getElem_take]
        have hm0 : m ≠ 0 := by omega
        have hle : l[j] ≤ l[m - 1] := by
          by_cases e : j = m - 1
          · subst e; exact Int.le_refl _
          · exact (List.pairwise_iff_getElem.1 hl) j (m - 1) (by omega) (by omega) (by omega)
        have hle2 : l[m - 1] ≤ l[m] := (List.pairwise_iff_getElem.1 hl) (m - 1) m (by omega) (by omega) (by omega)
        have hne := hk.resolve_left hm0
        omega
      · rw [List.mem_append, h2, ht, List.mem_append]
    · rw [if_neg hk, List.append_nil]
      refine ⟨h1, fun x => ?_⟩
      rw [h2, ht, List.mem_append]
      refine ⟨.inl, fun h => h.elim id fun e => ?_⟩
      rw [List.mem_singleton] at e
      have hm0 : m ≠ 0 := fun e => hk (.inl e)
      have he : l[m] = l[m - 1] := Classical.byContradiction fun c => hk (.inr c)
      rw [e, he]
      exact List.mem_take_iff_getElem.2 ⟨m - 1, by omega, rfl⟩
theorem up_compact {l : List Int} (hl : l.Pairwise (· ≤ ·)) : Up (Lib.compact l) := (compact_inv l hl l.length (Nat.le_refl _)).1
theorem mem_compact {l : List Int} (hl : l.Pairwise (· ≤ ·)) {x : Int} : x ∈ Lib.compact l ↔ x ∈ l := by
  have := (compact_inv l hl l.length (Nat.le_refl _)).2 x
  rw [List.take_length] at this
  exact this

/-- places from first on moved -/
def moved (l : List Int) (f by_ : Int) : List Int := l.map (fun p => if f ≤ p then p + by_ else p)
def shift (l : List Int) (f by_ : Int) : List Int := Lib.compact (moved l f by_)
theorem moved_down {l : List Int} (h : Up l) (q : Int) : (moved l (q + 1) (-1)).Pairwise (· ≤ ·) := by
  unfold moved
  rw [List.pairwise_map]
  exact h.imp fun {a b} hab => by split <;> split <;> omega
theorem moved_up {l : List Int} (h : Up l) (q : Int) : (moved l q 1).Pairwise (· ≤ ·) := by
  unfold moved
  rw [List.pairwise_map]
  exact h.imp fun {a b} hab => by split <;> split <;> omega
theorem mem_moved {l : List Int} {f b x : Int} : x ∈ moved l f b ↔ (x ∈ l ∧ x < f) ∨ (x - b ∈ l ∧ f ≤ x - b) := by
  unfold moved
  rw [List.mem_map]
  constructor
  · rintro ⟨y, hy, rfl⟩
    by_cases h : f ≤ y
    · rw [if_pos h, show y + b - b = y by omega]; exact .inr ⟨hy, h⟩
    · rw [if_neg h]; exact .inl ⟨hy, by omega⟩
  · rintro (⟨h, h2⟩ | ⟨h, h2⟩)
    · exact ⟨x, h, if_neg (by omega)⟩
    · exact ⟨x - b, h, by rw [if_pos h2]; omega⟩
/-- Lose, of Bad -/
theorem lose_bad {l : List Int} (h : Up l) (q : Int) : shift (l.filter (fun p => !decide (p = q))) (q + 1) (-1) = loseBad l q := by
  have hf : Up (l.filter (fun p => !decide (p = q))) := up_filter h _
  refine up_ext (up_compact (moved_down hf q)) (up_loseBad h q) fun x => ?_
  unfold shift
  rw [mem_compact (moved_down hf q), mem_moved, mem_loseBad, List.mem_filter, List.mem_filter]
  constructor
  · rintro (⟨⟨h1, h2⟩, h3⟩ | ⟨⟨h1, h2⟩, h3⟩)
    · simp at h2; exact .inl ⟨h1, by omega⟩
    · simp at h2; exact .inr ⟨by rw [show x + 1 = x - -1 by omega]; exact h1, by omega⟩
  · rintro (⟨h1, h2⟩ | ⟨h1, h2⟩)
    · exact .inl ⟨⟨h1, by simp; omega⟩, by omega⟩
    · exact .inr ⟨⟨by rw [show x - -1 = x + 1 by omega]; exact h1, by simp; omega⟩, by omega⟩
/-- Lose, of Gap -/
theorem lose_gap {l : List Int} (h : Up l) (q : Int) : mark (shift l (q + 1) (-1)) q = loseGap l q := by
  have hs := up_compact (moved_down h q)
  refine up_ext (up_mark hs q) (up_loseGap h q) fun x => ?_
  rw [mem_mark', mem_loseGap]
  show x = q ∨ x ∈ Lib.compact _ ↔ _
  rw [mem_compact (moved_down h q), mem_moved]
  constructor
  · rintro (h1 | ⟨h1, h2⟩ | ⟨h1, h2⟩)
    · exact .inr (.inl h1)
    · by_cases e : x = q
      · exact .inr (.inl e)
      · exact .inl ⟨h1, by omega⟩
    · by_cases e : x = q
      · exact .inr (.inl e)
      · exact .inr (.inr ⟨by rw [show x + 1 = x - -1 by omega]; exact h1, by omega⟩)
  · rintro (⟨h1, h2⟩ | h1 | ⟨h1, h2⟩)
    · exact .inr (.inl ⟨h1, by omega⟩)
    · exact .inl h1
    · exact .inr (.inr ⟨by rw [show x - -1 = x + 1 by omega]; exact h1, by omega⟩)
/-- Add, of Bad -/
theorem add_bad {l : List Int} (h : Up l) (q : Int) : mark (shift l q 1) q = addBad l q := by
  have hs := up_compact (moved_up h q)
  refine up_ext (up_mark hs q) (up_addBad h q) fun x => ?_
  rw [mem_mark', mem_addBad]
  show x = q ∨ x ∈ Lib.compact _ ↔ _
  rw [mem_compact (moved_up h q), mem_moved]
  constructor
  · rintro (h1 | ⟨h1, h2⟩ | ⟨h1, h2⟩)
    · exact .inr (.inl h1)
    · exact .inl ⟨h1, h2⟩
    · exact .inr (.inr ⟨h1, by omega⟩)
  · rintro (⟨h1, h2⟩ | h1 | ⟨h1, h2⟩)
    · exact .inr (.inl ⟨h1, h2⟩)
    · exact .inl h1
    · exact .inr (.inr ⟨h1, by omega⟩)
/-- Add, of Gap -/
theorem add_gap {l : List Int} (h : Up l) (q : Int) : shift l (q + 1) 1 = addGap l q := by
  refine up_ext (up_compact (moved_up h (q + 1))) (up_addGap h q) fun x => ?_
  unfold shift
  rw [mem_compact (moved_up h (q + 1)), mem_moved, mem_addGap]
  constructor
  · rintro (⟨h1, h2⟩ | ⟨h1, h2⟩)
    · exact .inl ⟨h1, by omega⟩
    · exact .inr ⟨h1, by omega⟩
  · rintro (⟨h1, h2⟩ | ⟨h1, h2⟩)
    · exact .inl ⟨h1, by omega⟩
    · exact .inr ⟨h1, by omega⟩
theorem up_shift_down {l : List Int} (h : Up l) (q : Int) : Up (shift l (q + 1) (-1)) := up_compact (moved_down h q)
theorem up_shift_up {l : List Int} (h : Up l) (q : Int) : Up (shift l q 1) := up_compact (moved_up h q)
theorem moved_length (l : List Int) (f b : Int) : (moved l f b).length = l.length := by simp [moved]
theorem compact_len (l : List Int) : (Lib.compact l).length ≤ l.length := by
  unfold Lib.compact Lib.compactUpTo
  rw [List.length_map]
  exact Nat.le_trans (List.length_filter_le _ _) (by simp)
end Ln
end Go.Proofs.Ytalleocmnnnchaa
