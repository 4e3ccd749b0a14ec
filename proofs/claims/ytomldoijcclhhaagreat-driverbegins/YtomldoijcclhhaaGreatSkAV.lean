/-
  Walks of layer 12: a head. Plain mathematics of layer 1 (octet): an array that is filled from its end (Put). Walks of layer 12: a number in four bytes (octet.Put, and the document's). Walks of layer 12: what stands behind a head.
-/
import Derived.Test.YtomldoijcclhhaaGreatSkAU
import Derived.Test.YtomldoijcclhhaaGreatSkAF
import Derived.WalkKit
import Derived.Lib.Builder
import Derived.Test.YtomldoijcclhhaaGreatSkAR
import Derived.Test.YtomldoijcclhhaaGreatSkAB
import Derived.Laws.IdiomStrings
import Derived.Lib.BufferMore
namespace Go.Proofs.YtomldoijcclhhaaGreat
open Go.RowKit
theorem Bit.or_u8 (a b : Nat) (ha : a < 256) (hb : b < 256) : bits .or .u8 (a : Int) (b : Int) = ((a ||| b : Nat) : Int) := by
  have hx : a ||| b < 2 ^ 8 := Nat.or_lt_two_pow ha hb
  show IntKind.u8.wrap ((BitVec.ofInt 8 (a : Int) ||| BitVec.ofInt 8 (b : Int)).toNat : Int) = _
  rw [BitVec.toNat_or, Bit.ofIntNat 8 a ha, Bit.ofIntNat 8 b hb, IntKind.wrap_u8]
  omega
namespace If
theorem or_i8 {n c : Nat} (hn : n < 32) (hc : c < 8) : bits .or .i64 ((n : Int) * 8) (c : Int) = ((n * 8 + c : Nat) : Int) := by
  have e := Bit.or_i64 (n * 8) c (by omega) (by omega)
  rw [show n * 8 ||| c = n * 8 + c from or_add n 3 c hc] at e
  rw [← e]; rfl
theorem or_i32 {k z : Nat} (hk : k < 8) (hz : z < 16) : bits .or .i64 ((k : Int) * 32) (z : Int) = ((k * 32 + z : Nat) : Int) := by
  have e := Bit.or_i64 (k * 32) z (by omega) (by omega)
  rw [show k * 32 ||| z = k * 32 + z from or_add k 5 z (by omega)] at e
  rw [← e]; rfl
theorem or_u16 {k z : Nat} (hk : k < 8) (hz : z < 16) : bits .or .u8 ((k * 32 + z : Nat) : Int) 16 = ((k * 32 + 16 + z : Nat) : Int) := by
  have e := Bit.or_u8 (k * 32 + z) 16 (by omega) (by omega)
  rw [show (16 : Int) = ((16 : Nat) : Int) from rfl, e]
  congr 1
  have h1 : k * 32 + z = k * 32 ||| z := (or_add k 5 z (by omega)).symm
  have h2 : k * 32 + 16 + z = k * 32 ||| (16 + z) := by rw [or_add k 5 (16 + z) (by omega)]; omega
  have h3 : 16 + z = 16 ||| z := (or_add 1 4 z (by omega)).symm
  rw [h1, h2, h3, Nat.or_assoc, Nat.or_comm z 16]
end If
set_option linter.unusedVariables false in
set_option maxHeartbeats 1000000 in
theorem head_core (k n a c z : Nat) (b : Bool) (d : ByteArray) (w : World) (hk : k < 8) (hn : n < 32) (ha : a < 32) (hc : c < 8) (hz : z < 4096)
    (A B C0 C D X Z : Nat) (_hA : A < 256) (_hB : B < 256) (_hC : C < 256) (_hD : D < 256) (_hX : X < 256) (T : ByteArray) (hT : T.size = 4)
    (oA : bits .or .i64 ((n : Int) * 8) (c : Int) = (A : Int)) (oB : bits .or .i64 ((a : Int) * 8) (c : Int) = (B : Int)) (sZ : (z : Int) / 256 = (Z : Int)) (oC : bits .or .i64 ((k : Int) * 32) (Z : Int) = (C0 : Int))
    (uA : IntKind.u8.wrap (A : Int) = (A : Int)) (uB : IntKind.u8.wrap (B : Int) = (B : Int)) (uC : IntKind.u8.wrap (C0 : Int) = (C0 : Int)) (uD : IntKind.u8.wrap (z : Int) = (D : Int)) (uX : IntKind.u8.wrap (X : Int) = (X : Int))
    (bC : b = true → bits .or .u8 (C0 : Int) 16 = (C : Int)) (bN : b = false → C0 = C)
    (cv1 : (convert 65 9 (.slice (some ⟨w.heap.size + 1, 1, none⟩) 4 5)).run Tryz.prog ((w.alloc (.cells #[.int .i64 k, .int .i64 n, .int .i64 a, .int .i64 c, .bool b, .string d] 55)).alloc (.cells #[.int .u8 7, .int .u8 A, .int .u8 B, .int .u8 C, .int .u8 D, .int .u8 0] 158)) = .ok (.string T) ((w.alloc (.cells #[.int .i64 k, .int .i64 n, .int .i64 a, .int .i64 c, .bool b, .string d] 55)).alloc (.cells #[.int .u8 7, .int .u8 A, .int .u8 B, .int .u8 C, .int .u8 D, .int .u8 0] 158)))
    (HX : Hid (∀ w : World, Calls Tryz.prog 181 #[.string T] w fun e w' => e = .returned (.int .i64 X) ∧ w' = w))
    (H : ByteArray)
    (cv2 : (convert 65 9 (.slice (some ⟨w.heap.size + 1, 0, none⟩) 6 6)).run Tryz.prog ((w.alloc (.cells #[.int .i64 k, .int .i64 n, .int .i64 a, .int .i64 c, .bool b, .string d] 55)).alloc (.cells #[.int .u8 7, .int .u8 A, .int .u8 B, .int .u8 C, .int .u8 D, .int .u8 X] 158)) = .ok (.string H) ((w.alloc (.cells #[.int .i64 k, .int .i64 n, .int .i64 a, .int .i64 c, .bool b, .string d] 55)).alloc (.cells #[.int .u8 7, .int .u8 A, .int .u8 B, .int .u8 C, .int .u8 D, .int .u8 X] 158))) :
    Calls Tryz.prog 162 #[.agg #[.int .i64 k, .int .i64 n, .int .i64 a, .int .i64 c, .bool b, .string d], .int .i64 z] w fun e w' => e = .returned (.string H) ∧ Below w.heap.size w w' := by
  have bw := If.more (If.below1 w (.cells #[.int .i64 k, .int .i64 n, .int .i64 a, .int .i64 c, .bool b, .string d] 55)) (.cells #[.int .u8 7, .int .u8 A, .int .u8 B, .int .u8 C, .int .u8 D, .int .u8 X] 158)
  cases b with
  | true =>
    have bC := bC rfl
    clear bN
    go_enter Tryz.func162, Tryz.ntmps162
    go_wp2_with (go_at_call 181; refine (HX.out _).mono ?_; rintro e w2 ⟨rfl, rfl⟩)
    go_ret
    exact ⟨rfl, bw⟩
  | false =>
    obtain rfl := bN rfl
    clear bC bN
    go_enter Tryz.func162, Tryz.ntmps162
    go_wp2_with (go_at_call 181; refine (HX.out _).mono ?_; rintro e w2 ⟨rfl, rfl⟩)
    go_ret
    exact ⟨rfl, bw⟩
theorem head_any (k n a c z : Nat) (b : Bool) (d : ByteArray) (hk : k < 8) (hn : n < 32) (ha : a < 32) (hc : c < 8) (hz : z < 4096) (w : World) :
    Calls Tryz.prog 162 #[.agg #[.int .i64 k, .int .i64 n, .int .i64 a, .int .i64 c, .bool b, .string d], .int .i64 z] w fun e w' => e = .returned (.string ⟨(If.hd k n a c b z).toArray⟩) ∧ Below w.heap.size w w' := by
  have oA := If.or_i8 hn hc
  have oB := If.or_i8 ha hc
  have oC := If.or_i32 (z := z / 256) hk (by omega)
  have oD := If.or_u16 (z := z / 256) hk (by omega)
  have hb := If.bit_le b
  have hr : If.hd k n a c b z = If.head (n * 8 + c) (a * 8 + c) (k * 32 + If.bit b + z / 256) (z % 256) := rfl
  have lA : n * 8 + c < 256 := by omega
  have lB : a * 8 + c < 256 := by omega
  have lC : k * 32 + If.bit b + z / 256 < 256 := by omega
  have lD : z % 256 < 256 := by omega
  have lX := If.xor_byte lA lB lC lD
  have bC : b = true → bits .or .u8 ((k * 32 + z / 256 : Nat) : Int) 16 = ((k * 32 + If.bit b + z / 256 : Nat) : Int) := fun e => by subst e; exact oD
  have bN : b = false → k * 32 + z / 256 = k * 32 + If.bit b + z / 256 := fun e => by subst e; rfl
  have lC0 : k * 32 + z / 256 < 256 := by omega
  have uD : IntKind.u8.wrap (z : Int) = ((z % 256 : Nat) : Int) := by rw [IntKind.wrap_u8]; omega
  have sZ : (z : Int) / 256 = ((z / 256 : Nat) : Int) := by omega
  rw [hr]
  unfold If.head
  clear hr hb
  generalize k * 32 + If.bit b + z / 256 = C at *
  generalize hC0 : k * 32 + z / 256 = C0 at *
  generalize n * 8 + c = A at *
  generalize a * 8 + c = B at *
  generalize z % 256 = D at *
  generalize hXX : A ^^^ B ^^^ C ^^^ D = X at *
  have hx : Chk.xor (⟨#[UInt8.ofNat A, UInt8.ofNat B, UInt8.ofNat C, UInt8.ofNat D]⟩ : ByteArray).data.toList = X := by
    rw [← hXX]
    simp [Chk.xor, If.ofNat_toNat lA, If.ofNat_toNat lB, If.ofNat_toNat lC, If.ofNat_toNat lD]
  have HX := fun w => xor_any ⟨#[UInt8.ofNat A, UInt8.ofNat B, UInt8.ofNat C, UInt8.ofNat D]⟩ w (show 4 ≤ maxLen by decide)
  rw [hx] at HX
  have h1 : ∀ X : Nat, ((w.alloc (.cells #[.int .i64 k, .int .i64 n, .int .i64 a, .int .i64 c, .bool b, .string d] 55)).alloc (.cells #[.int .u8 7, .int .u8 A, .int .u8 B, .int .u8 C, .int .u8 D, .int .u8 X] 158)).heap[w.heap.size + 1]? = some (.cells #[.int .u8 7, .int .u8 A, .int .u8 B, .int .u8 C, .int .u8 D, .int .u8 X] 158) := fun X => by
    have := If.heap_new (w.alloc (.cells #[.int .i64 k, .int .i64 n, .int .i64 a, .int .i64 c, .bool b, .string d] 55)) (.cells #[.int .u8 7, .int .u8 A, .int .u8 B, .int .u8 C, .int .u8 D, .int .u8 X] 158)
    rw [If.alloc_size] at this
    exact this
  refine head_core k n a c z b d w hk hn ha hc hz A B C0 C D X (z / 256) lA lB lC lD lX ⟨#[UInt8.ofNat A, UInt8.ofNat B, UInt8.ofNat C, UInt8.ofNat D]⟩ rfl oA oB sZ oC
    (by rw [IntKind.wrap_u8]; omega) (by rw [IntKind.wrap_u8]; omega) (by rw [IntKind.wrap_u8]; omega) uD (by rw [IntKind.wrap_u8]; omega) bC bN ?_ HX _ ?_
  · exact If.conv_at (l := [A, B, C, D]) (h1 0) (by simp; omega) (fun j hj => by
      have : j = 0 ∨ j = 1 ∨ j = 2 ∨ j = 3 := by simp at hj; omega
      rcases this with rfl | rfl | rfl | rfl <;> rfl)
  · exact If.conv_at (l := [7, A, B, C, D, X]) (h1 X) (by simp; omega) (fun j hj => by
      have : j = 0 ∨ j = 1 ∨ j = 2 ∨ j = 3 ∨ j = 4 ∨ j = 5 := by simp at hj; omega
      rcases this with rfl | rfl | rfl | rfl | rfl | rfl <;> rfl)
end Go.Proofs.YtomldoijcclhhaaGreat

namespace Go.Proofs.YtomldoijcclhhaaGreat
namespace Oct
/-- The first 'size' places of N, of which the last k are filled: place i holds f (size-1-i); all else is 0. -/
def fill (N size : Nat) (f : Nat → UInt8) (k : Nat) : List UInt8 := (List.range N).map fun i => if size - k ≤ i ∧ i < size then f (size - 1 - i) else 0
theorem fill_length (N size : Nat) (f : Nat → UInt8) (k : Nat) : (fill N size f k).length = N := by simp [fill]
theorem fill_set (N size : Nat) (f : Nat → UInt8) (k : Nat) (hk : k < size) : (fill N size f k).set (size - 1 - k) (f k) = fill N size f (k + 1) := by
  apply List.ext_getElem
  · simp [fill]
  · intro i h1 h2
    simp only [fill, List.getElem_set, List.getElem_map, List.getElem_range]
    simp only [fill, List.length_map, List.length_range] at h2
    by_cases e : size - 1 - k = i
    · rw [if_pos e, if_pos (by omega), ← e]; congr 1; omega
    · rw [if_neg e]
      by_cases e2 : size - k ≤ i ∧ i < size
      · rw [if_pos e2, if_pos (by omega)]
      · rw [if_neg e2, if_neg (by omega)]
theorem fill_zero (N size : Nat) (f : Nat → UInt8) : fill N size f 0 = List.replicate N 0 := by
  apply List.ext_getElem
  · simp [fill]
  · intro i h1 h2
    simp only [fill, List.getElem_map, List.getElem_range, List.getElem_replicate]
    rw [if_neg (by omega)]
/-- What is written: size bytes, f of the place from the right. -/
def rights (size : Nat) (f : Nat → UInt8) : List UInt8 := (List.range size).map fun i => f (size - 1 - i)
theorem rights_length (size : Nat) (f : Nat → UInt8) : (rights size f).length = size := by simp [rights]
theorem fill_take (N size : Nat) (f : Nat → UInt8) (hN : size ≤ N) (i : Nat) (h : i < size) : (fill N size f size)[i]? = (rights size f)[i]? := by
  simp only [fill, rights, List.getElem?_map]
  rw [List.getElem?_range (by omega), List.getElem?_range h]
  simp; omega

/-- A byte as a cell. -/
def bv (b : UInt8) : Value := .int .u8 (b.toNat : Int)
def cells (l : List UInt8) : Array Value := (l.map bv).toArray
theorem cells_set (l : List UInt8) (i : Nat) (x : UInt8) : (cells l).setIfInBounds i (bv x) = cells (l.set i x) := by
  simp [cells, List.map_set]
theorem cells_at (l : List UInt8) (i : Nat) (h : i < l.length) : (cells l)[i]? = some (bv l[i]) := by
  simp [cells, h]
theorem cells_at? (l : List UInt8) (i : Nat) : (cells l)[i]? = l[i]?.map bv := by simp [cells]

def putF (n : Nat) (j : Nat) : UInt8 := UInt8.ofNat (n / 256 ^ j)
theorem put_step (N q size k : Nat) (hk : k < size) (x : Int) (hx : x = ((q / 256 ^ k % 256 : Nat) : Int)) :
    (cells (fill N size (putF q) k)).setIfInBounds (size - 1 - k) (.int .u8 x) = cells (fill N size (putF q) (k + 1)) := by
  have e : (Value.int .u8 x) = bv (putF q k) := by
    unfold bv putF; rw [hx, UInt8.toNat_ofNat']
  rw [e, cells_set, fill_set N size _ k hk]
theorem put_cells {w : World} {b N T size : Nat} {f : Nat → UInt8} (hb : w.heap[b]? = some (.cells (cells (fill N size f size)) T (0, 0))) (hN : size ≤ N) :
    ∀ j (hj : j < (rights size f).length), w.cell? ((⟨b, 0, none⟩ : Addr).add j) = some (.int .u8 ((rights size f)[j].toNat : Int)) := by
  intro j hj
  have hj' : j < size := by rw [rights_length] at hj; exact hj
  have e : (⟨b, 0, none⟩ : Addr).add j = ⟨b, j, none⟩ := by unfold Addr.add; split <;> simp_all
  rw [e]
  have h1 : w.cell? ⟨b, j, none⟩ = (cells (fill N size f size))[j]? := by simp [World.cell?, hb]
  rw [h1, cells_at?, fill_take N size f hN j hj', List.getElem?_eq_getElem hj]
  rfl
end Oct
end Go.Proofs.YtomldoijcclhhaaGreat

namespace Go.Proofs.YtomldoijcclhhaaGreat
open Go.RowKit
theorem isSize4 (w : World) : Calls Tryz.prog 159 #[.int .i64 4] w fun e w' => e = .returned (.bool true) ∧ w' = w := by
  go_enter Tryz.func159, Tryz.ntmps159
  go_wp2
  go_ret
  exact ⟨rfl, rfl⟩
theorem If.rights4 (q : Nat) : Oct.rights 4 (Oct.putF q) = If.be4 q := by
  show [Oct.putF q 3, Oct.putF q 2, Oct.putF q 1, Oct.putF q 0] = _
  unfold Oct.putF If.be4
  rw [Nat.pow_zero, Nat.div_one, Nat.pow_one]
set_option maxHeartbeats 400000 in
theorem put4_any (q : Nat) (hq : q < 4294967296) (w : World) :
    Calls Tryz.prog 122 #[.int .i64 q, .int .i64 4] w fun e w' => e = .returned (.tuple #[.string ⟨(If.be4 q).toArray⟩, .int .i64 0]) ∧ Below w.heap.size w w' := by
  have HA : Hid (∀ W, Calls Tryz.prog 159 #[.int .i64 4] W fun e w' => e = .returned (.bool true) ∧ w' = W) := fun W => isSize4 W
  have hr : Hid (If.be4 q = Oct.rights 4 (Oct.putF q)) := (If.rights4 q).symm
  have d0 : decide ((q : Int) < 0) = false := by simp
  have d1 : ((q : Int) / 4294967296 != 0) = false := by rw [bne_eq_false_iff_eq]; omega
  have hlt : (q : Int) < 4294967296 := by omega
  go_enter Tryz.func122, Tryz.ntmps122
  go_wp2_with (go_at_call 159; refine (HA.out _).mono ?_; rintro e w' ⟨rfl, rfl⟩)
  go_loopw [21] (fun i wr => ∃ k : Nat, k ≤ 4 ∧ i = .int .i64 k ∧ wr.heap[w'.heap.size]? = some (.cells (Oct.cells (Oct.fill 4 4 (Oct.putF q) k)) 112 (0, 0)) ∧ Below w'.heap.size w' wr) (fun i _ => 4 - (intOf i).toNat)
  case atStart =>
    exact ⟨0, Nat.zero_le _, rfl, (MapKept.heap_alloc w' _).1.trans (by rw [Oct.fill_zero]; rfl), (Below.refl _ _).alloc (Nat.le_refl _) _⟩
  case round =>
    obtain ⟨k, hk, rfl, hb, hbl⟩ := hrel
    have hB : Hid (wr.heap[w'.heap.size]? = some (.cells (Oct.cells (Oct.fill 4 4 (Oct.putF q) k)) 112 (0, 0))) := hb
    clear hb
    have hcase : k = 0 ∨ k = 1 ∨ k = 2 ∨ k = 3 ∨ k = 4 := by omega
    rcases hcase with rfl | rfl | rfl | rfl | rfl
    · obtain ⟨v, hc⟩ : ∃ v, wr.cell? ⟨w'.heap.size, 3, none⟩ = some v := ⟨_, (Lib.cell_of_heap hB.out 3).trans (Oct.cells_at _ _ (by rw [Oct.fill_length]; omega))⟩
      have hf : wr.frozen? ⟨w'.heap.size, 3, none⟩ = false := Lib.frozen_of_heap hB.out _
      go_wp2
      refine ⟨⟨1, by omega, rfl, (Lib.heap_setCell_same hB.out _).trans ?_, hbl.setCell (p := ⟨w'.heap.size, 3, none⟩) (Nat.le_refl _) _⟩, by simp [intOf]⟩
      exact congrArg (fun c => some (Obj.cells c 112 (0, 0))) (Oct.put_step 4 q 4 0 (by omega) _ (by omega))
    · obtain ⟨v, hc⟩ : ∃ v, wr.cell? ⟨w'.heap.size, 2, none⟩ = some v := ⟨_, (Lib.cell_of_heap hB.out 2).trans (Oct.cells_at _ _ (by rw [Oct.fill_length]; omega))⟩
      have hf : wr.frozen? ⟨w'.heap.size, 2, none⟩ = false := Lib.frozen_of_heap hB.out _
      go_wp2
      refine ⟨⟨2, by omega, rfl, (Lib.heap_setCell_same hB.out _).trans ?_, hbl.setCell (p := ⟨w'.heap.size, 2, none⟩) (Nat.le_refl _) _⟩, by simp [intOf]⟩
      exact congrArg (fun c => some (Obj.cells c 112 (0, 0))) (Oct.put_step 4 q 4 1 (by omega) _ (by omega))
    · obtain ⟨v, hc⟩ : ∃ v, wr.cell? ⟨w'.heap.size, 1, none⟩ = some v := ⟨_, (Lib.cell_of_heap hB.out 1).trans (Oct.cells_at _ _ (by rw [Oct.fill_length]; omega))⟩
      have hf : wr.frozen? ⟨w'.heap.size, 1, none⟩ = false := Lib.frozen_of_heap hB.out _
      go_wp2
      refine ⟨⟨3, by omega, rfl, (Lib.heap_setCell_same hB.out _).trans ?_, hbl.setCell (p := ⟨w'.heap.size, 1, none⟩) (Nat.le_refl _) _⟩, by simp [intOf]⟩
      exact congrArg (fun c => some (Obj.cells c 112 (0, 0))) (Oct.put_step 4 q 4 2 (by omega) _ (by omega))
    · obtain ⟨v, hc⟩ : ∃ v, wr.cell? ⟨w'.heap.size, 0, none⟩ = some v := ⟨_, (Lib.cell_of_heap hB.out 0).trans (Oct.cells_at _ _ (by rw [Oct.fill_length]; omega))⟩
      have hf : wr.frozen? ⟨w'.heap.size, 0, none⟩ = false := Lib.frozen_of_heap hB.out _
      go_wp2
      refine ⟨⟨4, by omega, rfl, (Lib.heap_setCell_same hB.out _).trans ?_, hbl.setCell (p := ⟨w'.heap.size, 0, none⟩) (Nat.le_refl _) _⟩, by simp [intOf]⟩
      exact congrArg (fun c => some (Obj.cells c 112 (0, 0))) (Oct.put_step 4 q 4 3 (by omega) _ (by omega))
    · have hcv := run_convert_bytes_back (P := Tryz.prog) wr 65 9 5 ⟨w'.heap.size, 0, none⟩ 4 (Oct.rights 4 (Oct.putF q)) Tryz.underlying65 Tryz.underlying5 Tryz.underlying9 (Oct.put_cells hB.out (by omega))
      rw [Oct.rights_length] at hcv
      go_wp2
      go_ret2
      exact ⟨ret_se (by rw [hr.out]) rfl, hbl⟩
set_option maxHeartbeats 400000 in
theorem rput4_any (q : Nat) (hq : q < 4294967296) (w : World) :
    Calls Tryz.prog 81 #[.int .i64 q, .int .i64 4] w fun e w' => e = .returned (.tuple #[.string ⟨(If.be4 q).toArray⟩, .int .i64 0]) ∧ Below w.heap.size w w' := by
  have hr : Hid (If.be4 q = Oct.rights 4 (Oct.putF q)) := (If.rights4 q).symm
  have d0 : decide ((q : Int) < 0) = false := by simp
  have d1 : decide ((4294967296 : Int) ≤ (q : Int)) = false := by simp; omega
  have hlt : (q : Int) < 4294967296 := by omega
  go_enter Tryz.func81, Tryz.ntmps81
  go_wp2
  go_loopw [25] (fun i wr => ∃ k : Nat, k ≤ 4 ∧ i = .int .i64 k ∧ wr.heap[w.heap.size]? = some (.cells (Oct.cells (Oct.fill 4 4 (Oct.putF q) k)) 112 (0, 0)) ∧ Below w.heap.size w wr) (fun i _ => 4 - (intOf i).toNat)
  case atStart =>
    exact ⟨0, Nat.zero_le _, rfl, (MapKept.heap_alloc w _).1.trans (by rw [Oct.fill_zero]; rfl), (Below.refl _ _).alloc (Nat.le_refl _) _⟩
  case round =>
    obtain ⟨k, hk, rfl, hb, hbl⟩ := hrel
    have hB : Hid (wr.heap[w.heap.size]? = some (.cells (Oct.cells (Oct.fill 4 4 (Oct.putF q) k)) 112 (0, 0))) := hb
    clear hb
    have hcase : k = 0 ∨ k = 1 ∨ k = 2 ∨ k = 3 ∨ k = 4 := by omega
    rcases hcase with rfl | rfl | rfl | rfl | rfl
    · obtain ⟨v, hc⟩ : ∃ v, wr.cell? ⟨w.heap.size, 3, none⟩ = some v := ⟨_, (Lib.cell_of_heap hB.out 3).trans (Oct.cells_at _ _ (by rw [Oct.fill_length]; omega))⟩
      have hf : wr.frozen? ⟨w.heap.size, 3, none⟩ = false := Lib.frozen_of_heap hB.out _
      go_wp2
      refine ⟨⟨1, by omega, rfl, (Lib.heap_setCell_same hB.out _).trans ?_, hbl.setCell (p := ⟨w.heap.size, 3, none⟩) (Nat.le_refl _) _⟩, by simp [intOf]⟩
      exact congrArg (fun c => some (Obj.cells c 112 (0, 0))) (Oct.put_step 4 q 4 0 (by omega) _ (by omega))
    · obtain ⟨v, hc⟩ : ∃ v, wr.cell? ⟨w.heap.size, 2, none⟩ = some v := ⟨_, (Lib.cell_of_heap hB.out 2).trans (Oct.cells_at _ _ (by rw [Oct.fill_length]; omega))⟩
      have hf : wr.frozen? ⟨w.heap.size, 2, none⟩ = false := Lib.frozen_of_heap hB.out _
      go_wp2
      refine ⟨⟨2, by omega, rfl, (Lib.heap_setCell_same hB.out _).trans ?_, hbl.setCell (p := ⟨w.heap.size, 2, none⟩) (Nat.le_refl _) _⟩, by simp [intOf]⟩
      exact congrArg (fun c => some (Obj.cells c 112 (0, 0))) (Oct.put_step 4 q 4 1 (by omega) _ (by omega))
    · obtain ⟨v, hc⟩ : ∃ v, wr.cell? ⟨w.heap.size, 1, none⟩ = some v := ⟨_, (Lib.cell_of_heap hB.out 1).trans (Oct.cells_at _ _ (by rw [Oct.fill_length]; omega))⟩
      have hf : wr.frozen? ⟨w.heap.size, 1, none⟩ = false := Lib.frozen_of_heap hB.out _
      go_wp2
      refine ⟨⟨3, by omega, rfl, (Lib.heap_setCell_same hB.out _).trans ?_, hbl.setCell (p := ⟨w.heap.size, 1, none⟩) (Nat.le_refl _) _⟩, by simp [intOf]⟩
      exact congrArg (fun c => some (Obj.cells c 112 (0, 0))) (Oct.put_step 4 q 4 2 (by omega) _ (by omega))
    · obtain ⟨v, hc⟩ : ∃ v, wr.cell? ⟨w.heap.size, 0, none⟩ = some v := ⟨_, (Lib.cell_of_heap hB.out 0).trans (Oct.cells_at _ _ (by rw [Oct.fill_length]; omega))⟩
      have hf : wr.frozen? ⟨w.heap.size, 0, none⟩ = false := Lib.frozen_of_heap hB.out _
      go_wp2
      refine ⟨⟨4, by omega, rfl, (Lib.heap_setCell_same hB.out _).trans ?_, hbl.setCell (p := ⟨w.heap.size, 0, none⟩) (Nat.le_refl _) _⟩, by simp [intOf]⟩
      exact congrArg (fun c => some (Obj.cells c 112 (0, 0))) (Oct.put_step 4 q 4 3 (by omega) _ (by omega))
    · have hcv := run_convert_bytes_back (P := Tryz.prog) wr 65 9 5 ⟨w.heap.size, 0, none⟩ 4 (Oct.rights 4 (Oct.putF q)) Tryz.underlying65 Tryz.underlying5 Tryz.underlying9 (Oct.put_cells hB.out (by omega))
      rw [Oct.rights_length] at hcv
      go_wp2
      go_ret2
      exact ⟨ret_se (by rw [hr.out]) rfl, hbl⟩
end Go.Proofs.YtomldoijcclhhaaGreat

namespace Go.Proofs.YtomldoijcclhhaaGreat
open Go.RowKit
theorem If.empty_of {d : ByteArray} (h : d.size = 0) : d = ⟨#[]⟩ := by
  apply ByteArray.ext; apply Array.toList_inj.1
  exact List.eq_nil_of_length_eq_zero (by rw [If.len_eq]; exact h)
theorem If.body_some {d : ByteArray} (h : 0 < d.size) : If.body d.data.toList = d.data.toList ++ If.be4 (If.crc d.data.toList) := by
  unfold If.body
  rw [if_neg]
  intro e
  have := If.len_eq d
  rw [e] at this
  simp at this
  omega
set_option maxHeartbeats 1000000 in
theorem body_any (d : ByteArray) (hd : d.size < 4096) (w : World) :
    Calls Tryz.prog 173 #[.string d] w fun e w' => e = .returned (.string ⟨(If.body d.data.toList).toArray⟩) ∧ Below w.heap.size w w' := by
  by_cases h0 : d.size = 0
  · obtain rfl := If.empty_of h0
    clear h0 hd
    go_enter Tryz.func173, Tryz.ntmps173
    go_wp2
    go_ret
    exact ⟨rfl, Below.refl _ _⟩
  · have hn := If.ne_nil (s := d) (by omega)
    have HC : Hid (∀ W, Calls Tryz.prog 196 #[.string d] W fun e w' => e = .returned (.int .i64 (If.crc d.data.toList : Nat)) ∧ w' = W) := fun W => crc_any d W (by unfold maxLen; omega)
    have hq := If.crc_lt d.data.toList
    have hr : Hid (d ++ (⟨(If.be4 (If.crc d.data.toList)).toArray⟩ : ByteArray) = ⟨(If.body d.data.toList).toArray⟩) := by
      show _ = _
      rw [If.body_some (by omega), ← If.ba_app, If.ba_toList]
    generalize If.crc d.data.toList = q at *
    have HP : Hid (∀ W, Calls Tryz.prog 122 #[.int .i64 q, .int .i64 4] W fun e w' => e = .returned (.tuple #[.string ⟨(If.be4 q).toArray⟩, .int .i64 0]) ∧ Below W.heap.size W w') := fun W => put4_any q hq W
    have hT : (⟨(If.be4 q).toArray⟩ : ByteArray).size = 4 := rfl
    generalize (⟨(If.be4 q).toArray⟩ : ByteArray) = T at *
    clear h0 hq
    go_enter Tryz.func173, Tryz.ntmps173
    go_wp2_with (first
      | (go_at_call 196; refine (HC.out _).mono ?_; rintro e w1 ⟨rfl, rfl⟩)
      | (go_at_call 122; refine (HP.out _).mono ?_; rintro e w2 ⟨rfl, b2⟩))
    go_ret
    exact ⟨ret_s (by rw [hr.out]), b2⟩
end Go.Proofs.YtomldoijcclhhaaGreat
