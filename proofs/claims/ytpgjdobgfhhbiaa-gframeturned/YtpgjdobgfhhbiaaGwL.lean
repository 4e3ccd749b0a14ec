/-
  Walks of the laws of layer 11: GframeTurned.
-/
import Derived.Test.YtpgjdobgfhhbiaaGwI
import Derived.Lib.BufferMore
namespace Go.Proofs.Ytpgjdobgfhhbiaa
open Go.RowKit
namespace Gf
theorem xor_ne {a y : Nat} (hy : ¬ y = 0) : ¬ a ^^^ y = a := fun e => hy (by
  have := congrArg (fun x => a ^^^ x) e
  rw [show a ^^^ (a ^^^ y) = y by rw [← Nat.xor_assoc, Nat.xor_self, Nat.zero_xor], Nat.xor_self] at this
  exact this)
theorem x1 (a b c d y : Nat) : (a ^^^ y) ^^^ b ^^^ c ^^^ d = (a ^^^ b ^^^ c ^^^ d) ^^^ y := by
  rw [Nat.xor_assoc, Nat.xor_assoc, Nat.xor_assoc a y, Nat.xor_comm y, ← Nat.xor_assoc, ← Nat.xor_assoc, ← Nat.xor_assoc]
theorem x2 (a b c d y : Nat) : a ^^^ (b ^^^ y) ^^^ c ^^^ d = (a ^^^ b ^^^ c ^^^ d) ^^^ y := by
  rw [Nat.xor_comm a (b ^^^ y), x1, Nat.xor_comm b a]
theorem x3 (a b c d y : Nat) : a ^^^ b ^^^ (c ^^^ y) ^^^ d = (a ^^^ b ^^^ c ^^^ d) ^^^ y := by
  rw [← Nat.xor_assoc (a ^^^ b) c y, Nat.xor_assoc (a ^^^ b ^^^ c) y d, Nat.xor_comm y d, ← Nat.xor_assoc]
theorem x4 (a b c d y : Nat) : a ^^^ b ^^^ c ^^^ (d ^^^ y) = (a ^^^ b ^^^ c ^^^ d) ^^^ y := by rw [← Nat.xor_assoc]
theorem toNat_xor (a b : UInt8) : (a ^^^ b).toNat = a.toNat ^^^ b.toNat := UInt8.toNat_xor a b
/-- A byte of the head that is turned is told. -/
theorem read_turned (b1 b2 b3 b4 b5 y : UInt8) (r : List UInt8) (hy : ¬ y.toNat = 0) (hx : b1.toNat ^^^ b2.toNat ^^^ b3.toNat ^^^ b4.toNat = b5.toNat) (k : Nat) (hk : k < 6) :
    read ((16 :: b1 :: b2 :: b3 :: b4 :: b5 :: r).set k ((16 :: b1 :: b2 :: b3 :: b4 :: b5 :: r).getD k 0 ^^^ y)) = .error 3 := by
  have hh : k = 0 ∨ k = 1 ∨ k = 2 ∨ k = 3 ∨ k = 4 ∨ k = 5 := by omega
  rcases hh with rfl | rfl | rfl | rfl | rfl | rfl
  · apply read_16
    intro e
    have := congrArg UInt8.toNat e
    exact xor_ne (a := 16) hy ((toNat_xor 16 y).symm.trans this)
  all_goals
    unfold read
    dsimp only [List.set, List.getD, List.getElem?_cons_zero, List.getElem?_cons_succ, Option.getD]
    rw [if_neg (by decide)]
    unfold readHead
    rw [if_pos]
    left
    rw [toNat_xor]
  · rw [x1, hx]; exact xor_ne hy
  · rw [x2, hx]; exact xor_ne hy
  · rw [x3, hx]; exact xor_ne hy
  · rw [x4, hx]; exact xor_ne hy
  · rw [hx]; exact fun e => xor_ne hy e.symm
theorem text_turned {f : Fr} (h : ok f) (y : UInt8) (hy : ¬ y.toNat = 0) (k : Nat) (hk : k < 6) : read ((text f).set k ((text f).getD k 0 ^^^ y)) = .error 3 := by
  obtain ⟨hc, _, _, _⟩ := ctl_facts h
  have hkd := kd_range h
  have hsm := sm_lt f
  have h1 : sm f % 256 < 256 := Nat.mod_lt _ (by decide)
  have h2 : sm f / 256 < 256 := by omega
  have h3 := xor_byte (kd f) (sm f % 256) (sm f / 256) (ctl f) (by omega) h1 h2 hc
  exact read_turned _ _ _ _ _ y (body f) hy (by rw [ofNat_toNat (show kd f < 256 by omega), ofNat_toNat h1, ofNat_toNat h2, ofNat_toNat hc, ofNat_toNat h3]) k hk
end Gf
def rowOf (l : List UInt8) (z : Nat) : Array Value := (l.map fun b => Value.int .u8 b.toNat).toArray ++ Array.replicate z (.int .u8 0)
theorem rowOf_get (l : List UInt8) (z i : Nat) (h : i < l.length) : (rowOf l z)[i]? = some (.int .u8 (l[i].toNat : Int)) := by
  unfold rowOf
  rw [Array.getElem?_append_left (by simpa using h)]
  simp [h]
theorem rowOf_set (l : List UInt8) (z i : Nat) (h : i < l.length) (c : UInt8) : (rowOf l z).setIfInBounds i (.int .u8 (c.toNat : Int)) = rowOf (l.set i c) z := by
  apply Array.ext
  · simp [rowOf]
  · intro j h1 h2
    rw [← Option.some_inj, ← Array.getElem?_eq_getElem, ← Array.getElem?_eq_getElem, Array.getElem?_setIfInBounds]
    unfold rowOf
    by_cases hj : j < l.length
    · rw [Array.getElem?_append_left (by simpa using hj), Array.getElem?_append_left (by simpa using hj)]
      by_cases hij : i = j
      · subst hij; simp [h]; omega
      · simp [hij, hj]
    · rw [if_neg (by omega), Array.getElem?_append_right (by simp; omega), Array.getElem?_append_right (by simp; omega)]
      simp
theorem bytesRow_eq (s : ByteArray) (cap : Nat) : bytesRow s cap = rowOf s.data.toList (cap - s.size) := by
  unfold bytesRow rowOf
  congr 1
  apply Array.ext'
  simp
theorem rowOf_size (l : List UInt8) (z : Nat) : (rowOf l z).size = l.length + z := by simp [rowOf]
theorem frozen_row {w : World} {b : Nat} {cs : Array Value} {T : TypeId} {n : Nat} (hb : w.heap[b]? = some (.cells cs T (n, n + 1))) (j : Nat) (hj : j < n) : w.frozen? ⟨b, j, none⟩ = false := by
  simp [World.frozen?, hb]; omega
theorem conv_row {w : World} {b z cap : Nat} {fr : Nat × Nat} {L : List UInt8} (hb : w.heap[b]? = some (.cells (rowOf L z) 5 fr)) :
    (convert 40 9 (.slice (some ⟨b, 0, none⟩) L.length cap)).run Try.prog w = .ok (.string ⟨L.toArray⟩) w :=
  run_convert_bytes_back w 40 9 5 ⟨b, 0, none⟩ cap L Try.underlying40 Try.underlying5 Try.underlying9 (fun j hj => by
    have e : (⟨b, 0, none⟩ : Addr).add j = ⟨b, j, none⟩ := by cases j <;> simp [Addr.add]
    rw [e, Lib.cell_of_heap hb j, rowOf_get L z j hj])
end Go.Proofs.Ytpgjdobgfhhbiaa
