/-
  Chats (layer 8) in plain mathematics: words by pairs; how long lists may be.
-/
import Derived.Test.YteepfifglafjmaaDoorMathV8
namespace Go.Proofs.YteepfifglafjmaaDoor
namespace Ch
theorem rd_two (i : Nat) (x y : ByteArray) (r : List ByteArray) (l : List St) (hi : i % 2 = 0) (hl : l.length = i / 2) : rd i (x :: y :: r) l = match awaited x with
    | none => none
    | some q => match text true y.data.toList with
      | none => none
      | some t => rd (i + 2) r (l ++ [⟨q.1, q.2, ⟨t.toArray⟩⟩]) := by
  rw [rd, if_pos hi]
  cases awaited x with
  | none => rfl
  | some q =>
    dsimp only
    rw [rd, if_neg (by omega)]
    cases text true y.data.toList with
    | none => rfl
    | some t =>
      dsimp only
      have h1 : (i + 1) / 2 = l.length := by omega
      rw [h1]
      simp
theorem rd_one (i : Nat) (x : ByteArray) (l : List St) (hi : i % 2 = 0) : rd i [x] l = match awaited x with
    | none => none
    | some q => some (l ++ [⟨q.1, q.2, ⟨#[]⟩⟩]) := by
  rw [rd, if_pos hi]
  cases awaited x with
  | none => rfl
  | some q => rfl
theorem aw_len : ∀ (r : List ByteArray) (i : Nat) (ws ns : List ByteArray) (q : List ByteArray × List ByteArray), aw i r ws ns = some q → q.1.length ≤ ws.length + r.length ∧ q.2.length ≤ ns.length + r.length
  | [], _, ws, ns, q, h => by simp only [aw, Option.some.injEq] at h; subst h; simp
  | p :: r, i, ws, ns, q, h => by
    simp only [aw] at h
    split at h
    · split at h
      · cases h
      · have := aw_len r _ _ _ _ h; simp at *; omega
    · split at h
      · cases h
      · have := aw_len r _ _ _ _ h; simp at *; omega
theorem awaited_len {s : ByteArray} {q : List ByteArray × List ByteArray} (h : awaited s = some q) : q.1.length ≤ s.size + 1 ∧ q.2.length ≤ s.size + 1 := by
  unfold awaited at h
  split at h
  · cases h
  · have := aw_len _ _ _ _ _ h
    have := dash_len s
    simp at *
    omega
def Short (B : Nat) (x : St) : Prop := x.wants.length ≤ B + 1 ∧ x.nudge.length ≤ B + 1
theorem rd_short (B : Nat) : ∀ (r : List ByteArray) (i : Nat) (l q : List St), (∀ p ∈ r, p.size ≤ B) → (∀ x ∈ l, Short B x) → rd i r l = some q → ∀ x ∈ q, Short B x
  | [], _, l, q, _, hl, h => by simp only [rd, Option.some.injEq] at h; subst h; exact hl
  | p :: r, i, l, q, hp, hl, h => by
    have hp' : ∀ p ∈ r, p.size ≤ B := fun y hy => hp y (List.mem_cons_of_mem _ hy)
    have h0 := hp p (by simp)
    simp only [rd] at h
    split at h
    · split at h
      · cases h
      · rename_i a ha
        refine rd_short B r _ _ q hp' (fun x hx => ?_) h
        rcases List.mem_append.1 hx with e | e
        · exact hl x e
        · rw [List.mem_singleton.1 e]
          have := awaited_len ha
          exact ⟨by show a.1.length ≤ _; omega, by show a.2.length ≤ _; omega⟩
    · split at h
      · cases h
      · rename_i t _
        refine rd_short B r _ _ q hp' (fun x hx => ?_) h
        rcases List.mem_or_eq_of_mem_set hx with e | e
        · exact hl x e
        · rw [e]
          have hg : Short B (l.getD (i / 2) ⟨[], [], ⟨#[]⟩⟩) := by
            rw [List.getD_eq_getElem?_getD]
            cases hh : l[i / 2]? with
            | none => exact ⟨by simp, by simp⟩
            | some y => exact hl y (List.mem_of_getElem? hh)
          exact hg
theorem parse_short (s : ByteArray) : ∀ x ∈ (parse s).1, Short s.size x := by
  unfold parse
  split
  · intro x hx; cases hx
  · split
    · intro x hx; cases hx
    · split
      · intro x hx; cases hx
      · split
        · intro x hx; cases hx
        · rename_i l hl
          exact rd_short s.size _ _ _ l (fun p hp => words_size hp) (fun x hx => by cases hx) hl
theorem rd_count : ∀ (r : List ByteArray) (i : Nat) (l q : List St), rd i r l = some q → q.length ≤ l.length + r.length
  | [], _, l, q, h => by simp only [rd, Option.some.injEq] at h; subst h; simp
  | p :: r, i, l, q, h => by
    simp only [rd] at h
    split at h
    · split at h
      · cases h
      · have := rd_count r _ _ q h; simp at *; omega
    · split at h
      · cases h
      · have := rd_count r _ _ q h; simp at *; omega
theorem parse_count (s : ByteArray) : (parse s).1.length ≤ 40 := by
  unfold parse
  split
  · simp
  · split
    · simp
    · split
      · simp
      · split
        · simp
        · rename_i l hl
          have := rd_count _ _ _ l hl
          simp at *
          omega
end Ch
end Go.Proofs.YteepfifglafjmaaDoor
