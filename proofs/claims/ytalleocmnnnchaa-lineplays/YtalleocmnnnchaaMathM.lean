/-
  Layer 7, in plain mathematics: a way, a line, what is done to it.
-/
import Derived.Test.YtalleocmnnnchaaMathL
namespace Go.Proofs.Ytalleocmnnnchaa
namespace Ln

theorem len_le_of_up : ∀ {l : List Int} {a b : Int}, Up l → (∀ y ∈ l, a ≤ y ∧ y ≤ b) → (l.length : Int) ≤ max (b - a + 1) 0
  | [], a, b, _, _ => by simp; omega
  | x :: l, a, b, h, hb => by
    have hx := List.pairwise_cons.1 h
    have h0 := hb x (by simp)
    have := len_le_of_up (a := x + 1) (b := b) hx.2 (fun y hy => ⟨by have := hx.1 y hy; omega, (hb y (List.mem_cons_of_mem _ hy)).2⟩)
    simp only [List.length_cons]
    omega

/-- one way -/
structure Wy where
  x : List UInt8
  p : Nat
  bad : List Int
  gap : List Int
/-- a way that is as it should be, with at most n places -/
structure WOk (n : Nat) (r : Wy) : Prop where
  size : r.p + r.x.length ≤ n
  full : r.x.length ≤ 40000
  ub : Up r.bad
  ug : Up r.gap
  bb : ∀ y ∈ r.bad, 0 ≤ y ∧ y < (r.p + r.x.length : Int)
  bg : ∀ y ∈ r.gap, 0 ≤ y ∧ y ≤ (r.p + r.x.length : Int)
theorem WOk.mono {n m : Nat} {r : Wy} (h : WOk n r) (hm : n ≤ m) : WOk m r := ⟨Nat.le_trans h.size hm, h.full, h.ub, h.ug, h.bb, h.bg⟩
theorem WOk.lbad {n : Nat} {r : Wy} (h : WOk n r) : r.bad.length ≤ n + 1 := by
  have := len_le_of_up h.ub (fun y hy => ⟨(h.bb y hy).1, Int.le_of_lt (h.bb y hy).2⟩)
  have := h.size
  omega
theorem WOk.lgap {n : Nat} {r : Wy} (h : WOk n r) : r.gap.length ≤ n + 1 := by
  have := len_le_of_up h.ug h.bg
  have := h.size
  omega
def empty : Wy := ⟨[], 0, [], []⟩
theorem empty_ok (n : Nat) : WOk n empty := ⟨Nat.zero_le _, Nat.zero_le _, List.Pairwise.nil, List.Pairwise.nil, (fun _ h => by cases h), (fun _ h => by cases h)⟩

def sendW (r : Wy) (s : List UInt8) : Wy := { r with x := r.x ++ s }
def takeW (r : Wy) (m : Nat) : Wy := { r with x := r.x.drop m, p := r.p + m }
def flipW (r : Wy) (k : Nat) (c : UInt8) : Wy := { r with x := (r.x.take k ++ [c]) ++ r.x.drop (k + 1), bad := mark r.bad (r.p + k) }
def loseW (r : Wy) (k : Nat) : Wy := { r with x := r.x.take k ++ r.x.drop (k + 1), bad := loseBad r.bad (r.p + k), gap := loseGap r.gap (r.p + k) }
def addW (r : Wy) (k : Nat) (c : UInt8) : Wy := { r with x := (r.x.take k ++ [c]) ++ r.x.drop k, bad := addBad r.bad (r.p + k), gap := addGap r.gap (r.p + k) }

theorem sendW_ok {n : Nat} {r : Wy} (h : WOk n r) (s : List UInt8) (hs : r.x.length + s.length ≤ 40000) : WOk (n + s.length) (sendW r s) := by
  have := h.size
  refine ⟨by simp [sendW]; omega, by simp [sendW]; omega, h.ub, h.ug, fun y hy => ?_, fun y hy => ?_⟩
  · have := h.bb y hy; simp [sendW]; omega
  · have := h.bg y hy; simp [sendW]; omega
theorem takeW_ok {n : Nat} {r : Wy} (h : WOk n r) (m : Nat) (hm : m ≤ r.x.length) : WOk n (takeW r m) := by
  have := h.size
  have := h.full
  refine ⟨by simp [takeW]; omega, by simp [takeW]; omega, h.ub, h.ug, fun y hy => ?_, fun y hy => ?_⟩
  · have := h.bb y hy; simp [takeW]; omega
  · have := h.bg y hy; simp [takeW]; omega
theorem flipW_ok {n : Nat} {r : Wy} (h : WOk n r) (k : Nat) (hk : k < r.x.length) (c : UInt8) : WOk n (flipW r k c) := by
  have := h.size
  have := h.full
  have hl : (flipW r k c).x.length = r.x.length := by simp [flipW]; omega
  refine ⟨by rw [hl]; exact h.size, by rw [hl]; exact h.full, up_mark h.ub _, h.ug, fun y hy => ?_, fun y hy => ?_⟩
  · rw [hl]
    rcases mem_mark'.1 hy with e | e
    · subst e; show _ ∧ _ < ((r.p : Int) + _); omega
    · exact h.bb y e
  · rw [hl]; exact h.bg y hy
theorem loseW_ok {n : Nat} {r : Wy} (h : WOk n r) (k : Nat) (hk : k < r.x.length) : WOk n (loseW r k) := by
  have := h.size
  have := h.full
  have hl : (loseW r k).x.length + 1 = r.x.length := by simp [loseW]; omega
  have hp : (loseW r k).p = r.p := rfl
  refine ⟨by rw [hp]; omega, by omega, up_loseBad h.ub _, up_loseGap h.ug _, fun y hy => ?_, fun y hy => ?_⟩
  · rw [hp]
    rcases mem_loseBad.1 hy with ⟨e, e2⟩ | ⟨e, e2⟩
    · have := h.bb y e; omega
    · have := h.bb _ e; omega
  · rw [hp]
    rcases mem_loseGap.1 hy with ⟨e, e2⟩ | e | ⟨e, e2⟩
    · have := h.bg y e; omega
    · omega
    · have := h.bg _ e; omega
theorem addW_ok {n : Nat} {r : Wy} (h : WOk n r) (k : Nat) (hk : k ≤ r.x.length) (hf : r.x.length < 40000) (c : UInt8) : WOk (n + 1) (addW r k c) := by
  have := h.size
  have hl : (addW r k c).x.length = r.x.length + 1 := by simp [addW]; omega
  have hp : (addW r k c).p = r.p := rfl
  refine ⟨by rw [hp, hl]; omega, by omega, up_addBad h.ub _, up_addGap h.ug _, fun y hy => ?_, fun y hy => ?_⟩
  · rw [hp, hl]
    rcases mem_addBad.1 hy with ⟨e, e2⟩ | e | ⟨e, e2⟩
    · have := h.bb y e; omega
    · omega
    · have := h.bb _ e; omega
  · rw [hp, hl]
    rcases mem_addGap.1 hy with ⟨e, e2⟩ | ⟨e, e2⟩
    · have := h.bg y e; omega
    · have := h.bg _ e; omega
end Ln
end Go.Proofs.Ytalleocmnnnchaa
