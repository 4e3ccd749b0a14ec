/-
  Chats (layer 8) in plain mathematics: signs, texts, words, steps.
-/
import Derived.Lib.Bytealg
import Derived.Lib.IndexMore
import Derived.Lib.Fields
namespace Go.Proofs.YtpggnhnpphbaeaaDoor
namespace Ch
/-- bytes that stand by a sign, and the letters of their signs -/
def hid : List UInt8 := [13, 10, 32, 45, 34, 92]
def lets : List UInt8 := [114, 110, 115, 109, 113, 92]
/-- the byte that the first sign says, and how many bytes it has -/
def sign : List UInt8 → Option (UInt8 × Nat)
  | [] => none
  | [c] => if Lib.indexByte hid c < 0 then some (c, 1) else none
  | c :: d :: _ => if Lib.indexByte hid c < 0 then some (c, 1) else if c ≠ 92 then none else if Lib.indexByte lets d < 0 then none else some (hid.getD (Lib.indexByte lets d).toNat 0, 2)
theorem sign_pos : ∀ {l : List UInt8} {c : UInt8} {k : Nat}, sign l = some (c, k) → 1 ≤ k ∧ k ≤ l.length
  | [], _, _, h => by cases h
  | [x], c, k, h => by
    simp only [sign] at h
    split at h
    · cases h; exact ⟨Nat.le_refl _, Nat.le_refl _⟩
    · cases h
  | x :: d :: r, c, k, h => by
    simp only [sign] at h
    split at h
    · cases h; exact ⟨Nat.le_refl _, by simp⟩
    · split at h
      · cases h
      · split at h
        · cases h
        · cases h; exact ⟨by omega, by simp⟩
/-- the end of what is sent -/
def fin (sent : Bool) : List UInt8 := if sent then [13] else []
/-- sign by sign: the text, or none -/
def go (sent : Bool) : Nat → List UInt8 → List UInt8 → Option (List UInt8)
  | 0, _, _ => none
  | n + 1, rest, acc => if rest = [] then (if acc = [] then none else some (acc ++ fin sent)) else if sent = true ∧ rest = [92, 99] then some acc else match sign rest with
    | none => none
    | some (c, k) => go sent n (rest.drop k) (acc ++ [c])
/-- the text that a part says -/
def text (sent : Bool) (part : List UInt8) : Option (List UInt8) := if part = [34, 34] then some (fin sent) else go sent (part.length + 1) part []
theorem go_len (sent : Bool) : ∀ (n : Nat) (rest acc t : List UInt8), go sent n rest acc = some t → t.length ≤ acc.length + rest.length + 1
  | 0, _, _, _, h => by cases h
  | n + 1, rest, acc, t, h => by
    simp only [go] at h
    split at h
    · split at h
      · cases h
      · cases h; cases sent <;> simp [fin] <;> omega
    · split at h
      · cases h; omega
      · split at h
        · cases h
        · rename_i c k hs
          have := go_len sent n _ _ _ h
          have := sign_pos hs
          simp at *
          omega
theorem text_len {sent : Bool} {part t : List UInt8} (h : text sent part = some t) : t.length ≤ part.length + 1 := by
  unfold text at h
  split at h
  · cases h; cases sent <;> simp [fin]
  · have := go_len sent _ _ _ _ h; simpa using this
/-- a step -/
structure St where
  wants : List ByteArray
  nudge : List ByteArray
  send : ByteArray
end Ch
end Go.Proofs.YtpggnhnpphbaeaaDoor
