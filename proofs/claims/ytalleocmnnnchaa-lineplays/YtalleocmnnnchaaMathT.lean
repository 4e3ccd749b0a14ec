/-
  Layer 7, in plain mathematics: the document's own way of keeping places.
-/
import Derived.Test.YtalleocmnnnchaaMathL
namespace Go.Proofs.Ytalleocmnnnchaa
namespace Ln

/-- the place where q belongs -/
theorem mark_at {l : List Int} (h : Up l) (q : Int) (k : Nat) (hk : k ≤ l.length) (hb : ∀ x ∈ l.take k, x < q) (hs : ∀ hlt : k < l.length, ¬ l[k] < q) : k = l.countP (fun x => decide (x < q)) := by
  have e : l.countP (fun x => decide (x < q)) = (l.take k).countP (fun x => decide (x < q)) + (l.drop k).countP (fun x => decide (x < q)) := by
    rw [← List.countP_append, List.take_append_drop]
  have e1 : (l.take k).countP (fun x => decide (x < q)) = k := by
    rw [List.countP_eq_length.2 (fun x hx => by simpa using hb x hx), List.length_take]; omega
  have e2 : (l.drop k).countP (fun x => decide (x < q)) = 0 := by
    rw [List.countP_eq_zero]
    intro x hx
    obtain ⟨j, hj, rfl⟩ := List.mem_iff_getElem.1 hx
    rw [List.length_drop] at hj
    rw [List.getElem_drop]
    have h0 := hs (by omega)
    by_cases hj0 : j = 0
    · subst hj0; simpa using h0
    · have := (List.pairwise_iff_getElem.1 h) k (k + j) (by omega) (by omega) (by omega)
      simp; omega
  omega
theorem mark_has {l : List Int} (h : Up l) (q : Int) (k : Nat) (hk : k < l.length) (e : l[k] = q) : mark l q = l := mark_old h (by rw [← e]; exact List.getElem_mem hk)
theorem mark_puts {l : List Int} (h : Up l) (q : Int) (k : Nat) (hk : k ≤ l.length) (hb : ∀ x ∈ l.take k, x < q) (hs : ∀ hlt : k < l.length, q < l[k]) : (l.take k ++ [q]) ++ l.drop k = mark l q := by
  have e := mark_at h q k hk hb (fun hlt => by have := hs hlt; omega)
  have hn : q ∉ l := by
    intro hm
    rw [← List.take_append_drop k l] at hm
    rcases List.mem_append.1 hm with hm | hm
    · have := hb q hm; omega
    · obtain ⟨j, hj, e2⟩ := List.mem_iff_getElem.1 hm
      rw [List.length_drop] at hj
      rw [List.getElem_drop] at e2
      have h0 := hs (by omega)
      by_cases hj0 : j = 0
      · subst hj0; simp at e2; omega
      · have := (List.pairwise_iff_getElem.1 h) k (k + j) (by omega) (by omega) (by omega)
        omega
  have := mark_new h hn
  rw [← e] at this
  rw [List.append_assoc]
  exact this
theorem two_filter (l : List Int) (q : Int) : (l.filter (fun x => decide (x < q))).length + (l.filter (fun x => decide (q < x))).length ≤ l.length := by
  induction l with
  | nil => simp
  | cons x l ih =>
    by_cases h1 : x < q
    · have h2 : ¬ q < x := by omega
      simp [h1, h2]; omega
    · by_cases h2 : q < x
      · simp [h1, h2]; omega
      · simp [h1, h2]; omega
theorem mark_len (l : List Int) (q : Int) : (mark l q).length ≤ l.length + 1 := by
  have := two_filter l q
  unfold mark
  rw [List.length_append, List.length_cons]; omega

/-- Lose, of Bad, place by place -/
def loseB (q : Int) (b : Int) : List Int := if b < q then [b] else if q < b then [b - 1] else []
theorem lose_bad_ref : ∀ {l : List Int} (_ : Up l) (q : Int), l.flatMap (loseB q) = loseBad l q
  | [], _, _ => rfl
  | x :: l, h, q => by
    have hx := List.pairwise_cons.1 h
    rw [List.flatMap_cons, lose_bad_ref hx.2 q]
    unfold loseBad loseB
    by_cases h1 : x < q
    · have h2 : ¬ q < x := by omega
      simp [h1, h2]
    · by_cases h2 : q < x
      · have e : l.filter (fun x => decide (x < q)) = [] := List.filter_eq_nil_iff.2 (fun y hy => by have := hx.1 y hy; simp; omega)
        simp [h1, h2, e]
      · simp [h1, h2]
/-- Lose, of Gap, place by place -/
def loseG (q : Int) (g : Int) : Int := if q < g then g - 1 else g
def loseF (q : Int) (l : List Int) : List Int := l.foldl (fun a g => mark a (loseG q g)) []
theorem fold_mark (f : Int → Int) : ∀ (l : List Int) (a : List Int), Up a → Up (l.foldl (fun a g => mark a (f g)) a) ∧ (∀ x, x ∈ l.foldl (fun a g => mark a (f g)) a ↔ x ∈ a ∨ ∃ y ∈ l, x = f y) ∧ (l.foldl (fun a g => mark a (f g)) a).length ≤ a.length + l.length
  | [], a, h => ⟨h, fun x => by simp, Nat.le_refl _⟩
  | y :: l, a, h => by
    obtain ⟨h1, h2, h3⟩ := fold_mark f l (mark a (f y)) (up_mark h _)
    refine ⟨h1, fun x => ?_, ?_⟩
    · rw [List.foldl_cons, h2, mem_mark']
      constructor
      · rintro ((e | e) | ⟨z, hz, e⟩)
        · exact .inr ⟨y, by simp, e⟩
        · exact .inl e
        · exact .inr ⟨z, List.mem_cons_of_mem _ hz, e⟩
      · rintro (e | ⟨z, hz, e⟩)
        · exact .inl (.inr e)
        · rcases List.mem_cons.1 hz with r | r
          · subst r; exact .inl (.inl e)
          · exact .inr ⟨z, r, e⟩
    · have := mark_len a (f y)
      rw [List.foldl_cons, List.length_cons]; omega
theorem loseF_up (q : Int) (l : List Int) : Up (loseF q l) := (fold_mark (loseG q) l [] List.Pairwise.nil).1
theorem loseF_len (q : Int) (l : List Int) : (loseF q l).length ≤ l.length := by have := (fold_mark (loseG q) l [] List.Pairwise.nil).2.2; rw [List.length_nil, Nat.zero_add] at this; exact this
theorem loseF_step (q : Int) {l : List Int} {i : Nat} (hi : i < l.length) : loseF q (l.take (i + 1)) = mark (loseF q (l.take i)) (loseG q l[i]) := by
  unfold loseF
  rw [List.take_succ_eq_append_getElem hi, List.foldl_append]; rfl
theorem lose_gap_ref {l : List Int} (h : Up l) (q : Int) : mark (loseF q l) q = loseGap l q :=
  up_ext (up_mark (loseF_up q l) q) (up_loseGap h q) fun x => by
    rw [mem_mark', mem_loseGap, loseF, (fold_mark (loseG q) l [] List.Pairwise.nil).2.1]
    unfold loseG
    constructor
    · rintro (e | e | ⟨y, hy, e⟩)
      · exact .inr (.inl e)
      · cases e
      · by_cases c : q < y
        · rw [if_pos c] at e
          by_cases d : x = q
          · exact .inr (.inl d)
          · exact .inr (.inr ⟨by rw [show x + 1 = y by omega]; exact hy, by omega⟩)
        · rw [if_neg c] at e
          subst e
          by_cases d : x = q
          · exact .inr (.inl d)
          · exact .inl ⟨hy, by omega⟩
    · rintro (⟨e, f⟩ | e | ⟨e, f⟩)
      · exact .inr (.inr ⟨x, e, by rw [if_neg (by omega)]⟩)
      · exact .inl e
      · exact .inr (.inr ⟨x + 1, e, by rw [if_pos (by omega)]; omega⟩)
/-- Add, of Bad and Gap, place by place -/
def addB (q : Int) (b : Int) : Int := if q ≤ b then b + 1 else b
def addG (q : Int) (g : Int) : Int := if q < g then g + 1 else g
theorem up_addB {l : List Int} (h : Up l) (q : Int) : Up (l.map (addB q)) := up_map h _ (fun x _ y _ hxy => by unfold addB; split <;> split <;> omega)
theorem add_bad_ref {l : List Int} (h : Up l) (q : Int) : mark (l.map (addB q)) q = addBad l q :=
  up_ext (up_mark (up_addB h q) q) (up_addBad h q) fun x => by
    rw [mem_mark', mem_addBad, List.mem_map]
    unfold addB
    constructor
    · rintro (e | ⟨y, hy, e⟩)
      · exact .inr (.inl e)
      · by_cases c : q ≤ y
        · rw [if_pos c] at e; exact .inr (.inr ⟨by rw [show x - 1 = y by omega]; exact hy, by omega⟩)
        · rw [if_neg c] at e; subst e; exact .inl ⟨hy, by omega⟩
    · rintro (⟨e, f⟩ | e | ⟨e, f⟩)
      · exact .inr ⟨x, e, by rw [if_neg (by omega)]⟩
      · exact .inl e
      · exact .inr ⟨x - 1, e, by rw [if_pos (by omega)]; omega⟩
theorem add_gap_ref {l : List Int} (h : Up l) (q : Int) : l.map (addG q) = addGap l q :=
  up_ext (up_map h _ (fun x _ y _ hxy => by unfold addG; split <;> split <;> omega)) (up_addGap h q) fun x => by
    rw [mem_addGap, List.mem_map]
    unfold addG
    constructor
    · rintro ⟨y, hy, e⟩
      by_cases c : q < y
      · rw [if_pos c] at e; exact .inr ⟨by rw [show x - 1 = y by omega]; exact hy, by omega⟩
      · rw [if_neg c] at e; subst e; exact .inl ⟨hy, by omega⟩
    · rintro (⟨e, f⟩ | ⟨e, f⟩)
      · exact ⟨x, e, by rw [if_neg (by omega)]⟩
      · exact ⟨x - 1, e, by rw [if_pos (by omega)]; omega⟩
end Ln
end Go.Proofs.Ytalleocmnnnchaa
