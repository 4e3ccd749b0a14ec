/-
  Layer 7, in plain mathematics: where each byte came from.
-/
import Derived.Test.YtfhjmlonmnljaaaMathM
namespace Go.Proofs.Ytfhjmlonmnljaaa
namespace Ln

theorem at_lt {A Y : List UInt8} {i : Nat} (h : i < A.length) : (A ++ Y)[i]? = A[i]? := List.getElem?_append_left h
theorem at_ge {A B : List UInt8} {i : Nat} (h : A.length ≤ i) : (A ++ B)[i]? = B[i - A.length]? := List.getElem?_append_right h
theorem at_gt {A B : List UInt8} {c : UInt8} {i : Nat} (h : A.length < i) : (A ++ c :: B)[i]? = B[i - A.length - 1]? := by
  rw [List.getElem?_append_right (Nat.le_of_lt h), show i - A.length = (i - A.length - 1) + 1 by omega, List.getElem?_cons_succ]
  rfl

/-- where each byte of T that is not marked stands in d; bytes that stand beside each other in T without a mark do so in d -/
def Sr (d T : List UInt8) (bad gap : List Int) (s : Nat → Nat) : Prop :=
  (∀ (i : Nat) (c : UInt8), T[i]? = some c → (i : Int) ∉ bad → d[s i]? = some c) ∧
  (∀ i : Nat, i + 1 < T.length → (i : Int) ∉ bad → (i : Int) + 1 ∉ bad → (i : Int) + 1 ∉ gap → s (i + 1) = s i + 1)

theorem Sr.start (d : List UInt8) : Sr d d [] [] id := ⟨fun _ _ h _ => h, fun _ _ _ _ _ => rfl⟩

theorem Sr.flip {d A B : List UInt8} {b : UInt8} {bad gap : List Int} {s : Nat → Nat} (h : Sr d (A ++ b :: B) bad gap s) (c : UInt8) : Sr d (A ++ c :: B) (mark bad A.length) gap s := by
  refine ⟨fun i x hx hb => ?_, fun i hi h1 h2 h3 => ?_⟩
  · have hne : i ≠ A.length := fun e => hb (mem_mark'.2 (.inl (by omega)))
    have hb' : (i : Int) ∉ bad := fun e => hb (mem_mark'.2 (.inr e))
    refine h.1 i x ?_ hb'
    rcases Nat.lt_or_ge i A.length with h' | h'
    · rw [at_lt h'] at hx ⊢; exact hx
    · have h2 : A.length < i := by omega
      rw [at_gt h2] at hx ⊢; exact hx
  · exact h.2 i (by simp at hi ⊢; omega) (fun e => h1 (mem_mark'.2 (.inr e))) (fun e => h2 (mem_mark'.2 (.inr e))) h3

theorem Sr.lose {d A B : List UInt8} {b : UInt8} {bad gap : List Int} {s : Nat → Nat} (h : Sr d (A ++ b :: B) bad gap s) : Sr d (A ++ B) (loseBad bad A.length) (loseGap gap A.length) (fun i => if i < A.length then s i else s (i + 1)) := by
  refine ⟨fun i x hx hb => ?_, fun i hi h1 h2 h3 => ?_⟩
  · by_cases hl : i < A.length
    · simp only [if_pos hl]
      refine h.1 i x ?_ (fun e => hb (mem_loseBad.2 (.inl ⟨e, by omega⟩)))
      rw [at_lt hl] at hx ⊢; exact hx
    · simp only [if_neg hl]
      refine h.1 (i + 1) x ?_ (fun e => hb (mem_loseBad.2 (.inr ⟨by rw [Int.natCast_add] at e; exact e, by omega⟩)))
      rw [at_ge (by omega)] at hx
      rw [at_gt (by omega), show i + 1 - A.length - 1 = i - A.length by omega]
      exact hx
  · have hi' : i + 2 < (A ++ b :: B).length := by simp at hi ⊢; omega
    have hne : i + 1 ≠ A.length := fun e => h3 (mem_loseGap.2 (.inr (.inl (by omega))))
    by_cases hl : i + 1 < A.length
    · simp only [if_pos hl, if_pos (show i < A.length by omega)]
      exact h.2 i (by omega) (fun e => h1 (mem_loseBad.2 (.inl ⟨e, by omega⟩))) (fun e => h2 (mem_loseBad.2 (.inl ⟨e, by omega⟩))) (fun e => h3 (mem_loseGap.2 (.inl ⟨e, by omega⟩)))
    · simp only [if_neg hl, if_neg (show ¬ i < A.length by omega)]
      refine h.2 (i + 1) hi' (fun e => h1 (mem_loseBad.2 (.inr ⟨by rw [Int.natCast_add] at e; exact e, by omega⟩))) (fun e => h2 (mem_loseBad.2 (.inr ⟨by rw [Int.natCast_add] at e; exact e, by omega⟩))) (fun e => h3 (mem_loseGap.2 (.inr (.inr ⟨by rw [Int.natCast_add] at e; exact e, by omega⟩))))

theorem Sr.add {d A B : List UInt8} {bad gap : List Int} {s : Nat → Nat} (h : Sr d (A ++ B) bad gap s) (c : UInt8) : Sr d (A ++ c :: B) (addBad bad A.length) (addGap gap A.length) (fun i => if i < A.length then s i else s (i - 1)) := by
  refine ⟨fun i x hx hb => ?_, fun i hi h1 h2 h3 => ?_⟩
  · have hne : i ≠ A.length := fun e => hb (mem_addBad.2 (.inr (.inl (by omega))))
    by_cases hl : i < A.length
    · simp only [if_pos hl]
      refine h.1 i x ?_ (fun e => hb (mem_addBad.2 (.inl ⟨e, by omega⟩)))
      rw [at_lt hl] at hx ⊢; exact hx
    · simp only [if_neg hl]
      refine h.1 (i - 1) x ?_ (fun e => hb (mem_addBad.2 (.inr (.inr ⟨by rw [show ((i - 1 : Nat) : Int) = (i : Int) - 1 by omega] at e; exact e, by omega⟩))))
      rw [at_gt (by omega)] at hx
      rw [at_ge (by omega), show i - 1 - A.length = i - A.length - 1 by omega]
      exact hx
  · have n1 : i ≠ A.length := fun e => h1 (mem_addBad.2 (.inr (.inl (by omega))))
    have n2 : i + 1 ≠ A.length := fun e => h2 (mem_addBad.2 (.inr (.inl (by omega))))
    by_cases hl : i + 1 < A.length
    · simp only [if_pos hl, if_pos (show i < A.length by omega)]
      exact h.2 i (by simp at hi ⊢; omega) (fun e => h1 (mem_addBad.2 (.inl ⟨e, by omega⟩))) (fun e => h2 (mem_addBad.2 (.inl ⟨e, by omega⟩))) (fun e => h3 (mem_addGap.2 (.inl ⟨e, by omega⟩)))
    · simp only [if_neg hl, if_neg (show ¬ i < A.length by omega)]
      obtain ⟨j, rfl⟩ : ∃ j, i = j + 1 := ⟨i - 1, by omega⟩
      have ee : ((j + 1 : Nat) : Int) - 1 = (j : Int) := by omega
      refine h.2 j (by simp at hi ⊢; omega) (fun e => h1 (mem_addBad.2 (.inr (.inr ⟨by rw [ee]; exact e, by omega⟩)))) (fun e => h2 (mem_addBad.2 (.inr (.inr ⟨by rw [show ((j + 1 : Nat) : Int) + 1 - 1 = (j : Int) + 1 by omega]; exact e, by omega⟩)))) (fun e => h3 (mem_addGap.2 (.inr ⟨by rw [show ((j + 1 : Nat) : Int) + 1 - 1 = (j : Int) + 1 by omega]; exact e, by omega⟩)))

/-- what came out, and what is under way, of d -/
def Good (d o : List UInt8) (r : Wy) : Prop := o.length = r.p ∧ ∃ s, Sr d (o ++ r.x) r.bad r.gap s
theorem Good.start (d : List UInt8) : Good d [] ⟨d, 0, [], []⟩ := ⟨rfl, id, Sr.start d⟩
theorem Good.take {d o : List UInt8} {r : Wy} (h : Good d o r) (m : Nat) (hm : m ≤ r.x.length) : Good d (o ++ r.x.take m) (takeW r m) := by
  obtain ⟨h1, s, h2⟩ := h
  refine ⟨by simp [takeW]; omega, s, ?_⟩
  show Sr d (o ++ r.x.take m ++ r.x.drop m) r.bad r.gap s
  rw [List.append_assoc, List.take_append_drop]
  exact h2
theorem cut {x : List UInt8} {k : Nat} (hk : k < x.length) : x = x.take k ++ x[k] :: x.drop (k + 1) := by
  rw [List.getElem_cons_drop, List.take_append_drop]
theorem Good.flip {d o : List UInt8} {r : Wy} (h : Good d o r) (k : Nat) (hk : k < r.x.length) (c : UInt8) : Good d o (flipW r k c) := by
  obtain ⟨h1, s, h2⟩ := h
  refine ⟨h1, s, ?_⟩
  have hl : (o ++ r.x.take k).length = r.p + k := by simp; omega
  rw [cut hk, ← List.append_assoc] at h2
  have := h2.flip c
  rw [hl] at this
  show Sr d (o ++ (r.x.take k ++ [c] ++ r.x.drop (k + 1))) (mark r.bad (r.p + k)) r.gap s
  simpa using this
theorem Good.lose {d o : List UInt8} {r : Wy} (h : Good d o r) (k : Nat) (hk : k < r.x.length) : Good d o (loseW r k) := by
  obtain ⟨h1, s, h2⟩ := h
  have hl : (o ++ r.x.take k).length = r.p + k := by simp; omega
  rw [cut hk, ← List.append_assoc] at h2
  obtain ⟨s', this⟩ : ∃ s', Sr d _ _ _ s' := ⟨_, h2.lose⟩
  refine ⟨h1, s', ?_⟩
  rw [hl] at this
  show Sr d (o ++ (r.x.take k ++ r.x.drop (k + 1))) (loseBad r.bad (r.p + k)) (loseGap r.gap (r.p + k)) _
  simpa using this
theorem Good.add {d o : List UInt8} {r : Wy} (h : Good d o r) (k : Nat) (hk : k ≤ r.x.length) (c : UInt8) : Good d o (addW r k c) := by
  obtain ⟨h1, s, h2⟩ := h
  have hl : (o ++ r.x.take k).length = r.p + k := by simp; omega
  rw [← List.take_append_drop k r.x, ← List.append_assoc] at h2
  obtain ⟨s', this⟩ : ∃ s', Sr d _ _ _ s' := ⟨_, h2.add c⟩
  refine ⟨h1, s', ?_⟩
  rw [hl] at this
  show Sr d (o ++ (r.x.take k ++ [c] ++ r.x.drop k)) (addBad r.bad (r.p + k)) (addGap r.gap (r.p + k)) _
  simpa using this

/-- a clean piece stands in d, one byte behind the other -/
theorem Sr.part {d T : List UInt8} {bad gap : List Int} {s : Nat → Nat} (h : Sr d T bad gap s) (f n : Nat) (hn : f + n ≤ T.length) (hb : ∀ y ∈ bad, ¬ ((f : Int) ≤ y ∧ y < ((f + n : Nat) : Int))) (hg : ∀ y ∈ gap, ¬ ((f : Int) < y ∧ y < ((f + n : Nat) : Int))) :
    ∃ k, k + n ≤ d.length ∧ (d.drop k).take n = (T.drop f).take n := by
  by_cases h0 : n = 0
  · subst h0; exact ⟨0, Nat.zero_le _, by simp⟩
  have hnb : ∀ j, j < n → ((f + j : Nat) : Int) ∉ bad := fun j hj e => hb _ e ⟨by omega, by omega⟩
  have hs : ∀ j, j < n → s (f + j) = s f + j := by
    intro j
    induction j with
    | zero => intro _; rfl
    | succ j ih =>
      intro hj
      have := h.2 (f + j) (by omega) (hnb j (by omega)) (by have := hnb (j + 1) hj; rw [show ((f + (j + 1) : Nat) : Int) = ((f + j : Nat) : Int) + 1 by omega] at this; exact this)
        (fun e => hg _ e ⟨by omega, by omega⟩)
      rw [show f + (j + 1) = f + j + 1 by omega, this, ih (by omega)]
      omega
  have hd : ∀ j, j < n → d[s f + j]? = T[f + j]? := fun j hj => by
    have hlt : f + j < T.length := by omega
    have := h.1 (f + j) T[f + j] (List.getElem?_eq_getElem hlt) (hnb j hj)
    rw [hs j hj] at this
    rw [this, List.getElem?_eq_getElem hlt]
  refine ⟨s f, ?_, ?_⟩
  · have h1 := hd (n - 1) (by omega)
    rw [List.getElem?_eq_getElem (show f + (n - 1) < T.length by omega)] at h1
    obtain ⟨h2, _⟩ := List.getElem?_eq_some_iff.1 h1
    omega
  · apply List.ext_getElem?
    intro j
    rw [List.getElem?_take, List.getElem?_take]
    split
    · rename_i hj
      rw [List.getElem?_drop, List.getElem?_drop]
      exact hd j hj
    · rfl
end Ln
end Go.Proofs.Ytfhjmlonmnljaaa
