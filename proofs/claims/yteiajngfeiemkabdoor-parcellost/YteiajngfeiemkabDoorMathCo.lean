/-
  Plain mathematics of layer 1 (octet), third part: an array that is filled from its end (Put, Fixed), and what Put writes.
-/
import Derived.Test.YteiajngfeiemkabDoorMathB
import Derived.WalkKit
namespace Go.Proofs.YteiajngfeiemkabDoor
namespace Oct

/-- The first 'size' places of N, of which the last k are filled: place i holds f (size-1-i); all else is 0. -/
def fill (N size : Nat) (f : Nat → UInt8) (k : Nat) : List UInt8 := (List.range N).map fun i => if size - k ≤ i ∧ i < size then f (size - 1 - i) else 0
theorem fill_length (N size : Nat) (f : Nat → UInt8) (k : Nat) : (fill N size f k).length = N := by simp [fill]
theorem fill_set (N size : Nat) (f : Nat → UInt8) (k : Nat) (hk : k < size) : (fill N size f k).set (size - 1 - k) (f k) = fill N size f (k + 1) := by
  apply List.ext_getElem
  · simp [fill]
  · intro i h1 h2
    simp only [fill, List.getElem_set, List.getElem_map, List.getElem_range]
    simp only [fill, List.length_map, List.length_range] at h2
    by_cases e : size - 1 - k = i
    · rw [if_pos e, if_pos (by omega), ← e]; congr 1; omega
    · rw [if_neg e]
      by_cases e2 : size - k ≤ i ∧ i < size
      · rw [if_pos e2, if_pos (by omega)]
      · rw [if_neg e2, if_neg (by omega)]
theorem fill_zero (N size : Nat) (f : Nat → UInt8) : fill N size f 0 = List.replicate N 0 := by
  apply List.ext_getElem
  · simp [fill]
  · intro i h1 h2
    simp only [fill, List.getElem_map, List.getElem_range, List.getElem_replicate]
    rw [if_neg (by omega)]
/-- What is written: size bytes, f of the place from the right. -/
def rights (size : Nat) (f : Nat → UInt8) : List UInt8 := (List.range size).map fun i => f (size - 1 - i)
theorem rights_length (size : Nat) (f : Nat → UInt8) : (rights size f).length = size := by simp [rights]
theorem fill_take (N size : Nat) (f : Nat → UInt8) (hN : size ≤ N) (i : Nat) (h : i < size) : (fill N size f size)[i]? = (rights size f)[i]? := by
  simp only [fill, rights, List.getElem?_map]
  rw [List.getElem?_range (by omega), List.getElem?_range h]
  simp; omega

/-- A byte as a cell. -/
def bv (b : UInt8) : Value := .int .u8 (b.toNat : Int)
def cells (l : List UInt8) : Array Value := (l.map bv).toArray
theorem cells_set (l : List UInt8) (i : Nat) (x : UInt8) : (cells l).setIfInBounds i (bv x) = cells (l.set i x) := by
  simp [cells, List.map_set]
theorem cells_at (l : List UInt8) (i : Nat) (h : i < l.length) : (cells l)[i]? = some (bv l[i]) := by
  simp [cells, h]
theorem cells_at? (l : List UInt8) (i : Nat) : (cells l)[i]? = l[i]?.map bv := by simp [cells]

/-- P1.3: what Put writes, and the error's number. -/
def putF (n : Nat) (j : Nat) : UInt8 := UInt8.ofNat (n / 256 ^ j)
def put (n size : Int) : List UInt8 × Nat :=
  if size < 1 ∨ 4 < size then ([], 1) else if n < 0 ∨ (256 : Int) ^ size.toNat ≤ n then ([], 5) else (rights size.toNat (putF n.toNat), 0)
theorem put_arg {n size : Int} (h : size < 1 ∨ 4 < size) : put n size = ([], 1) := by unfold put; rw [if_pos h]
theorem put_long {n size : Int} (h1 : 1 ≤ size) (h4 : size ≤ 4) (h : n < 0 ∨ (256 : Int) ^ size.toNat ≤ n) : put n size = ([], 5) := by
  unfold put; rw [if_neg (by omega), if_pos h]
theorem put_ok {n size : Int} (h1 : 1 ≤ size) (h4 : size ≤ 4) (h0 : 0 ≤ n) (h : n < (256 : Int) ^ size.toNat) : put n size = (rights size.toNat (putF n.toNat), 0) := by
  unfold put; rw [if_neg (by omega), if_neg (by omega)]
theorem put_step (N q size k : Nat) (hk : k < size) (x : Int) (hx : x = ((q / 256 ^ k % 256 : Nat) : Int)) :
    (cells (fill N size (putF q) k)).setIfInBounds (size - 1 - k) (.int .u8 x) = cells (fill N size (putF q) (k + 1)) := by
  have e : (Value.int .u8 x) = bv (putF q k) := by
    unfold bv putF; rw [hx, UInt8.toNat_ofNat']
  rw [e, cells_set, fill_set N size _ k hk]
theorem put_cells {w : World} {b N T size : Nat} {f : Nat → UInt8} (hb : w.heap[b]? = some (.cells (cells (fill N size f size)) T (0, 0))) (hN : size ≤ N) :
    ∀ j (hj : j < (rights size f).length), w.cell? ((⟨b, 0, none⟩ : Addr).add j) = some (.int .u8 ((rights size f)[j].toNat : Int)) := by
  intro j hj
  have hj' : j < size := by rw [rights_length] at hj; exact hj
  have e : (⟨b, 0, none⟩ : Addr).add j = ⟨b, j, none⟩ := by unfold Addr.add; split <;> simp_all
  rw [e]
  have h1 : w.cell? ⟨b, j, none⟩ = (cells (fill N size f size))[j]? := by simp [World.cell?, hb]
  rw [h1, cells_at?, fill_take N size f hN j hj', List.getElem?_eq_getElem hj]
  rfl
end Oct
end Go.Proofs.YteiajngfeiemkabDoor
