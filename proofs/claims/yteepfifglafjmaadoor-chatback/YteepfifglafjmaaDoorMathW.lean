/-
  Chats (layer 8) in plain mathematics: the document's way of reading a word.
-/
import Derived.Test.YteepfifglafjmaaDoorMathX
namespace Go.Proofs.YteepfifglafjmaaDoor
namespace Ch
/-- a byte that stands as it is -/
def plain (c : UInt8) : Bool := decide (33 ≤ c.toNat) && decide (c.toNat ≤ 126) && decide (c.toNat ≠ 92) && decide (c.toNat ≠ 45) && decide (c.toNat ≠ 34)
/-- what may stand in a word -/
def inWord (l : List UInt8) : Prop := ∀ b ∈ l, 33 ≤ b.toNat ∧ b.toNat ≤ 126
theorem idx_neg_of : ∀ {l : List UInt8} {c : UInt8}, c ∉ l → Lib.indexByte l c < 0
  | [], _, _ => by show (-1 : Int) < 0; decide
  | b :: l, c, h => by
    have h1 : (b == c) = false := by rw [beq_eq_false_iff_ne]; intro e; exact h (by rw [e]; simp)
    have h2 := idx_neg_of (l := l) (c := c) (fun e => h (List.mem_cons_of_mem _ e))
    have h3 := Lib.indexByte_ge l c
    unfold Lib.indexByte
    rw [h1]
    have h4 : Lib.indexByte l c = -1 := by omega
    rw [h4]
    decide
theorem idx_nonneg_of : ∀ {l : List UInt8} {c : UInt8}, c ∈ l → ¬ Lib.indexByte l c < 0
  | [], _, h => by cases h
  | b :: l, c, h => by
    unfold Lib.indexByte
    by_cases e : (b == c) = true
    · rw [e, if_pos rfl]; omega
    · have e' : (b == c) = false := by simpa using e
      rw [e']
      have hm : c ∈ l := by
        rcases List.mem_cons.1 h with q | q
        · rw [q] at e'; simp at e'
        · exact q
      have := idx_nonneg_of hm
      have h3 := Lib.indexByte_ge l c
      by_cases e2 : (Lib.indexByte l c == -1) = true
      · rw [beq_iff_eq] at e2; omega
      · simp only [Bool.false_eq_true, if_false, e2]; omega
theorem u8_eq {c : UInt8} {n : Nat} (hn : n < 256) (h : c.toNat = n) : c = UInt8.ofNat n := by
  apply UInt8.toNat_inj.1
  rw [h]
  simp [Nat.mod_eq_of_lt hn]
theorem plain_sign {c : UInt8} (h : plain c = true) : Lib.indexByte hid c < 0 ∧ c ≠ 92 := by
  simp only [plain, Bool.and_eq_true, decide_eq_true_eq] at h
  obtain ⟨⟨⟨⟨h1, h2⟩, h3⟩, h4⟩, h5⟩ := h
  refine ⟨idx_neg_of (fun hm => ?_), fun e => h3 (by rw [e]; rfl)⟩
  simp only [hid, List.mem_cons, List.not_mem_nil, or_false] at hm
  rcases hm with e | e | e | e | e | e <;> rw [e] at h1 h3 h4 h5 <;> revert h1 h3 h4 h5 <;> decide
theorem odd_sign {c : UInt8} (hb : 33 ≤ c.toNat ∧ c.toNat ≤ 126) (h : plain c = false) : ¬ Lib.indexByte hid c < 0 := by
  apply idx_nonneg_of
  have : c.toNat = 92 ∨ c.toNat = 45 ∨ c.toNat = 34 := by
    by_cases a : c.toNat = 92
    · exact .inl a
    by_cases b : c.toNat = 45
    · exact .inr (.inl b)
    by_cases d : c.toNat = 34
    · exact .inr (.inr d)
    simp [plain, hb.1, hb.2, a, b, d] at h
  rcases this with e | e | e
  · rw [u8_eq (by decide) e]; decide
  · rw [u8_eq (by decide) e]; decide
  · rw [u8_eq (by decide) e]; decide
/-- sign by sign: the text without its end, and whether it has none -/
def rgo (sent : Bool) : Nat → List UInt8 → List UInt8 → Option (List UInt8 × Bool)
  | 0, _, _ => none
  | n + 1, rest, acc => if rest = [] then (if acc = [] then none else some (acc, false)) else if sent = true ∧ rest = [92, 99] then some (acc, true) else match sign rest with
    | none => none
    | some (c, k) => rgo sent n (rest.drop k) (acc ++ [c])
def whole (sent : Bool) (q : List UInt8 × Bool) : List UInt8 := if q.2 = true then q.1 else q.1 ++ fin sent
theorem go_rgo (sent : Bool) : ∀ (n : Nat) (rest acc : List UInt8), go sent n rest acc = (rgo sent n rest acc).map (whole sent)
  | 0, _, _ => rfl
  | n + 1, rest, acc => by
    simp only [go, rgo]
    split
    · split
      · rfl
      · rfl
    · split
      · rfl
      · cases sign rest with
        | none => rfl
        | some q => exact go_rgo sent n _ _
def read (sent : Bool) (part : List UInt8) : Option (List UInt8 × Bool) := if part = [34, 34] then some ([], false) else rgo sent (part.length + 1) part []
theorem text_read (sent : Bool) (part : List UInt8) : text sent part = (read sent part).map (whole sent) := by
  unfold text read
  split
  · simp [whole]
  · exact go_rgo sent _ _ _
theorem rgo_len (sent : Bool) : ∀ (n : Nat) (rest acc : List UInt8) (t : List UInt8 × Bool), rgo sent n rest acc = some t → t.1.length ≤ acc.length + rest.length
  | 0, _, _, _, h => by cases h
  | n + 1, rest, acc, t, h => by
    simp only [rgo] at h
    split at h
    · split at h
      · cases h
      · cases h; simp
    · split at h
      · cases h; simp
      · split at h
        · cases h
        · rename_i c k hs
          have := rgo_len sent n _ _ _ h
          have := sign_pos hs
          simp at *
          omega
theorem read_len {sent : Bool} {part : List UInt8} {t : List UInt8 × Bool} (h : read sent part = some t) : t.1.length ≤ part.length := by
  unfold read at h
  split at h
  · cases h; simp
  · have := rgo_len sent _ _ _ _ h; simpa using this
theorem rgo_end (b : Bool) (n : Nat) (acc : List UInt8) : rgo b (n + 1) [] acc = if acc = [] then none else some (acc, false) := by
  simp only [rgo, if_true]
theorem rgo_plain (b : Bool) (n : Nat) {c : UInt8} (t acc : List UInt8) (h : plain c = true) : rgo b (n + 1) (c :: t) acc = rgo b n t (acc ++ [c]) := by
  obtain ⟨h1, h2⟩ := plain_sign h
  have h3 : ¬ (b = true ∧ c :: t = [92, 99]) := fun e => h2 (by have := e.2; simp at this; exact this.1)
  have h4 : sign (c :: t) = some (c, 1) := by
    cases t with
    | nil => simp only [sign]; rw [if_pos h1]
    | cons d r => simp only [sign]; rw [if_pos h1]
  simp only [rgo]
  rw [if_neg (by simp), if_neg h3, h4]
  simp
theorem rgo_odd (b : Bool) (n : Nat) {c : UInt8} (t acc : List UInt8) (hb : 33 ≤ c.toNat ∧ c.toNat ≤ 126) (h : plain c = false) (h9 : c ≠ 92) : rgo b (n + 1) (c :: t) acc = none := by
  have h1 := odd_sign hb h
  have h3 : ¬ (b = true ∧ c :: t = [92, 99]) := fun e => h9 (by have := e.2; simp at this; exact this.1)
  have h4 : sign (c :: t) = none := by
    cases t with
    | nil => simp only [sign]; rw [if_neg h1]
    | cons d r => simp only [sign]; rw [if_neg h1, if_pos h9]
  simp only [rgo]
  rw [if_neg (by simp), if_neg h3, h4]
theorem rgo_last (b : Bool) (n : Nat) (acc : List UInt8) : rgo b (n + 1) [92] acc = none := by
  have h4 : sign [92] = none := by decide
  simp only [rgo]
  rw [if_neg (by simp), if_neg (fun e => by have := e.2; simp at this), h4]
theorem rgo_bare (n : Nat) (acc : List UInt8) : rgo true (n + 1) [92, 99] acc = some (acc, true) := by
  simp [rgo]
theorem rgo_esc (b : Bool) (n : Nat) (d : UInt8) (t acc : List UInt8) (h : ¬ (b = true ∧ d = 99 ∧ t = [])) : rgo b (n + 1) (92 :: d :: t) acc = if Lib.indexByte lets d < 0 then none else rgo b n t (acc ++ [hid.getD (Lib.indexByte lets d).toNat 0]) := by
  have h3 : ¬ (b = true ∧ (92 : UInt8) :: d :: t = [92, 99]) := fun e => h ⟨e.1, by have := e.2; simp at this; exact this⟩
  have h1 : ¬ Lib.indexByte hid 92 < 0 := by decide
  simp only [rgo]
  rw [if_neg (by simp), if_neg h3]
  simp only [sign]
  rw [if_neg h1, if_neg (by simp)]
  by_cases h5 : Lib.indexByte lets d < 0
  · rw [if_pos h5, if_pos h5]
  · rw [if_neg h5, if_neg h5]
    simp
end Ch
end Go.Proofs.YteepfifglafjmaaDoor
