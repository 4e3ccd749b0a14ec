/-
  Chats (layer 8) in plain mathematics: how much steps are; a tick; a chat to which nothing comes.
-/
import Derived.Test.YtpggnhnpphbaeaaDoorMathY
namespace Go.Proofs.YtpggnhnpphbaeaaDoor
namespace Ch
def txg : List ByteArray → Nat → Nat
  | [], n => n
  | s :: r, n => if 3000 < s.size then 100000 else txg r (n + (s.size + 1))
def tx (l : List ByteArray) : Nat := if 400 < l.length then 100000 else txg l 0
theorem txg_le : ∀ (l : List ByteArray) (n : Nat), txg l n ≤ max 100000 (n + l.length * 3001)
  | [], n => by simp [txg]; omega
  | s :: r, n => by
    unfold txg
    split
    · omega
    · have := txg_le r (n + (s.size + 1))
      rw [List.length_cons]
      omega
theorem tx_le (l : List ByteArray) : tx l ≤ 1300000 := by
  unfold tx
  split
  · omega
  · have := txg_le l 0
    omega
theorem txg_lt : ∀ (l : List ByteArray) (n : Nat), txg l n < 100000 → n + l.length ≤ txg l n ∧ ∀ s ∈ l, s.size ≤ txg l n
  | [], n, _ => by simp [txg]
  | s :: r, n, h => by
    unfold txg at h ⊢
    split at h
    · omega
    · rename_i hs
      rw [if_neg hs]
      obtain ⟨h1, h2⟩ := txg_lt r _ h
      refine ⟨by rw [List.length_cons]; omega, fun x hx => ?_⟩
      rcases List.mem_cons.1 hx with e | e
      · rw [e]; omega
      · exact h2 x e
theorem tx_lt {l : List ByteArray} (h : tx l < 100000) : l.length ≤ tx l ∧ ∀ s ∈ l, s.size ≤ tx l := by
  unfold tx at h ⊢
  split at h
  · omega
  · rename_i hl
    rw [if_neg hl]
    have := txg_lt l 0 h
    exact ⟨by omega, this.2⟩
def frg : List St → Nat → Nat
  | [], n => n
  | x :: r, n => frg r (n + (tx x.wants + tx x.nudge + min x.send.size 100000))
def far (l : List St) : Bool := decide (60 < l.length) || decide (6000 < frg l 0)
theorem frg_ge : ∀ (l : List St) (n : Nat), n ≤ frg l n ∧ ∀ x ∈ l, tx x.wants + tx x.nudge + min x.send.size 100000 ≤ frg l n
  | [], n => by simp [frg]
  | x :: r, n => by
    obtain ⟨h1, h2⟩ := frg_ge r (n + (tx x.wants + tx x.nudge + min x.send.size 100000))
    unfold frg
    refine ⟨by omega, fun y hy => ?_⟩
    rcases List.mem_cons.1 hy with e | e
    · rw [e]; omega
    · exact h2 y e
/-- steps that are not far -/
structure Near (l : List St) : Prop where
  len : l.length ≤ 60
  wants : ∀ x ∈ l, x.wants.length ≤ 6000 ∧ ∀ s ∈ x.wants, s.size ≤ 6000
  nudge : ∀ x ∈ l, x.nudge.length ≤ 6000 ∧ ∀ s ∈ x.nudge, s.size ≤ 6000
  send : ∀ x ∈ l, x.send.size ≤ 6000
theorem near_of {l : List St} (h : far l = false) : Near l := by
  simp only [far, Bool.or_eq_false_iff, decide_eq_false_iff_not] at h
  have hg := (frg_ge l 0).2
  refine ⟨by omega, fun x hx => ?_, fun x hx => ?_, fun x hx => ?_⟩
  · have := hg x hx
    have h2 := tx_lt (l := x.wants) (by omega)
    exact ⟨by omega, fun s hs => by have := h2.2 s hs; omega⟩
  · have := hg x hx
    have h2 := tx_lt (l := x.nudge) (by omega)
    exact ⟨by omega, fun s hs => by have := h2.2 s hs; omega⟩
  · have := hg x hx
    omega
end Ch
end Go.Proofs.YtpggnhnpphbaeaaDoor
