/-
  Plain mathematics of layer 1 (octet), fifth part: reading a quoted text.
-/
import Derived.Test.YtakgmpebgaiinaaDoorRefQ
import Derived.Lib.Bytealg
namespace Go.Proofs.YtakgmpebgaiinaaDoor
namespace Oct
/-- Two small hexadecimal digits behind a backslash: the byte, and that three bytes say it; none: it may not be. -/
def pair (a b : UInt8) : Option (UInt8 × Nat) :=
  if digit (a.toNat : Int) < 0 ∨ digit (b.toNat : Int) < 0 then none
  else if plainI (16 * digit (a.toNat : Int) + digit (b.toNat : Int)) = true then none
  else some (UInt8.ofNat (16 * digit (a.toNat : Int) + digit (b.toNat : Int)).toNat, 3)
/-- The byte that a quoted text begins with, and how many bytes say it. -/
def unq1 : List UInt8 → Option (UInt8 × Nat)
  | [] => none
  | c :: r => if plain c = true then some (c, 1) else if c = 92 then (match r with | a :: b :: _ => pair a b | _ => none) else none
/-- P1.5: the text whose Quote this is. -/
def unquote : List UInt8 → Option (List UInt8)
  | [] => some []
  | [c] => if plain c = true then some [c] else none
  | [c, d] => if plain c = true then (unquote [d]).map (c :: ·) else none
  | c :: a :: b :: t => if plain c = true then (unquote (a :: b :: t)).map (c :: ·) else if c = 92 then (match pair a b with | some x => (unquote t).map (x.1 :: ·) | none => none) else none
theorem pair_three {a b : UInt8} {x : UInt8 × Nat} (h : pair a b = some x) : x.2 = 3 := by
  unfold pair at h
  split at h
  · cases h
  · split at h
    · cases h
    · cases h; rfl
theorem unquote_step {l : List UInt8} {c : UInt8} {n : Nat} (h : unq1 l = some (c, n)) : unquote l = (unquote (l.drop n)).map (c :: ·) := by
  match l, h with
  | [], h => cases h
  | [d], h =>
    by_cases hp : plain d = true
    · simp [unq1, hp] at h; obtain ⟨rfl, rfl⟩ := h; simp [unquote, hp]
    · simp [unq1, hp] at h
  | [d, e], h =>
    by_cases hp : plain d = true
    · simp [unq1, hp] at h; obtain ⟨rfl, rfl⟩ := h; simp [unquote, hp]
    · simp [unq1, hp] at h
  | d :: a :: b :: t, h =>
    by_cases hp : plain d = true
    · simp [unq1, hp] at h; obtain ⟨rfl, rfl⟩ := h; simp [unquote, hp]
    · by_cases h92 : d = 92
      · simp only [unq1, hp, if_pos h92] at h
        simp at h
        have h3 := pair_three h
        simp only [unquote, hp, if_pos h92, h]
        simp at h3
        subst h3
        simp
      · simp [unq1, hp, h92] at h
theorem unquote_none {l : List UInt8} (h0 : l ≠ []) (h : unq1 l = none) : unquote l = none := by
  match l, h0, h with
  | [], h0, _ => exact absurd rfl h0
  | [d], _, h =>
    by_cases hp : plain d = true
    · simp [unq1, hp] at h
    · simp [unquote, hp]
  | [d, e], _, h =>
    by_cases hp : plain d = true
    · simp [unq1, hp] at h
    · simp [unquote, hp]
  | d :: a :: b :: t, _, h =>
    by_cases hp : plain d = true
    · simp [unq1, hp] at h
    · by_cases h92 : d = 92
      · simp only [unq1, hp, if_pos h92] at h
        simp at h
        simp only [unquote, hp, if_pos h92, h]
        simp
      · simp [unquote, hp, h92]
theorem unq1_pos {l : List UInt8} {c : UInt8} {n : Nat} (h : unq1 l = some (c, n)) : 1 ≤ n ∧ n ≤ l.length := by
  match l, h with
  | [], h => cases h
  | [d], h =>
    by_cases hp : plain d = true
    · simp [unq1, hp] at h; obtain ⟨rfl, rfl⟩ := h; simp
    · simp [unq1, hp] at h
  | [d, e], h =>
    by_cases hp : plain d = true
    · simp [unq1, hp] at h; obtain ⟨rfl, rfl⟩ := h; simp
    · simp [unq1, hp] at h
  | d :: a :: b :: t, h =>
    by_cases hp : plain d = true
    · simp [unq1, hp] at h; obtain ⟨rfl, rfl⟩ := h; simp
    · by_cases h92 : d = 92
      · simp only [unq1, hp, if_pos h92] at h
        simp at h
        have h3 := pair_three h
        simp at h3
        subst h3
        simp
      · simp [unq1, hp, h92] at h
theorem unq1_plain (s : ByteArray) (h : 0 < s.size) (hp : plainI (s[0].toNat : Int) = true) : unq1 s.data.toList = some (s[0], 1) := by
  obtain ⟨⟨l⟩⟩ := s
  match l, h, hp with
  | c :: r, _, hp =>
    have hp' : plain c = true := hp
    simp [unq1, hp']
    rfl
theorem unq1_other (s : ByteArray) (h : 0 < s.size) (hp : plainI (s[0].toNat : Int) = false) (h92 : (s[0].toNat : Int) ≠ 92) : unq1 s.data.toList = none := by
  obtain ⟨⟨l⟩⟩ := s
  match l, h, hp, h92 with
  | c :: r, _, hp, h92 =>
    have hp' : plain c = false := hp
    have hc : c ≠ 92 := fun e => h92 (by subst e; rfl)
    simp [unq1, hp', hc]
theorem unq1_short (s : ByteArray) (h : 0 < s.size) (hp : plainI (s[0].toNat : Int) = false) (h3 : s.size < 3) : unq1 s.data.toList = none := by
  obtain ⟨⟨l⟩⟩ := s
  match l, h, hp, h3 with
  | [c], _, hp, _ => have hp' : plain c = false := hp; simp [unq1, hp']
  | [c, d], _, hp, _ => have hp' : plain c = false := hp; simp [unq1, hp']
theorem unq1_pair (s : ByteArray) (h3 : 3 ≤ s.size) (hp : plainI (s[0].toNat : Int) = false) (h92 : (s[0].toNat : Int) = 92) : unq1 s.data.toList = pair s[1] s[2] := by
  obtain ⟨⟨l⟩⟩ := s
  match l, h3, hp, h92 with
  | c :: a :: b :: t, _, hp, h92 =>
    have hp' : plain c = false := hp
    have hc : c = 92 := UInt8.toNat_inj.1 (by have : ((c.toNat : Nat) : Int) = 92 := h92; show c.toNat = 92; omega)
    subst hc
    simp [unq1, hp']
    rfl
theorem indexHex_fin : ∀ n : Fin 256, Lib.indexByte [48, 49, 50, 51, 52, 53, 54, 55, 56, 57, 97, 98, 99, 100, 101, 102] (UInt8.ofNat n.val) = digit (n.val : Int) := by decide +kernel
theorem indexHex (c : UInt8) : Lib.indexByte [48, 49, 50, 51, 52, 53, 54, 55, 56, 57, 97, 98, 99, 100, 101, 102] c = digit (c.toNat : Int) := by
  have h := indexHex_fin ⟨c.toNat, c.toNat_lt⟩
  have e : UInt8.ofNat c.toNat = c := UInt8.ofNat_toNat
  rw [e] at h; exact h
end Oct
end Go.Proofs.YtakgmpebgaiinaaDoor
