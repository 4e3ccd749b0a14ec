/-
  Walks of layer 12: a head.
-/
import Derived.Test.YtghelhcmecmldaaIfU
import Derived.Test.YtghelhcmecmldaaCrc2
namespace Go.Proofs.Ytghelhcmecmldaa
open Go.RowKit
theorem Bit.or_u8 (a b : Nat) (ha : a < 256) (hb : b < 256) : bits .or .u8 (a : Int) (b : Int) = ((a ||| b : Nat) : Int) := by
  have hx : a ||| b < 2 ^ 8 := Nat.or_lt_two_pow ha hb
  show IntKind.u8.wrap ((BitVec.ofInt 8 (a : Int) ||| BitVec.ofInt 8 (b : Int)).toNat : Int) = _
  rw [BitVec.toNat_or, Bit.ofIntNat 8 a ha, Bit.ofIntNat 8 b hb, IntKind.wrap_u8]
  omega
namespace If
theorem or_i8 {n c : Nat} (hn : n < 32) (hc : c < 8) : bits .or .i64 ((n : Int) * 8) (c : Int) = ((n * 8 + c : Nat) : Int) := by
  have e := Bit.or_i64 (n * 8) c (by omega) (by omega)
  rw [show n * 8 ||| c = n * 8 + c from or_add n 3 c hc] at e
  rw [← e]; rfl
theorem or_i32 {k z : Nat} (hk : k < 8) (hz : z < 16) : bits .or .i64 ((k : Int) * 32) (z : Int) = ((k * 32 + z : Nat) : Int) := by
  have e := Bit.or_i64 (k * 32) z (by omega) (by omega)
  rw [show k * 32 ||| z = k * 32 + z from or_add k 5 z (by omega)] at e
  rw [← e]; rfl
theorem or_u16 {k z : Nat} (hk : k < 8) (hz : z < 16) : bits .or .u8 ((k * 32 + z : Nat) : Int) 16 = ((k * 32 + 16 + z : Nat) : Int) := by
  have e := Bit.or_u8 (k * 32 + z) 16 (by omega) (by omega)
  rw [show (16 : Int) = ((16 : Nat) : Int) from rfl, e]
  congr 1
  have h1 : k * 32 + z = k * 32 ||| z := (or_add k 5 z (by omega)).symm
  have h2 : k * 32 + 16 + z = k * 32 ||| (16 + z) := by rw [or_add k 5 (16 + z) (by omega)]; omega
  have h3 : 16 + z = 16 ||| z := (or_add 1 4 z (by omega)).symm
  rw [h1, h2, h3, Nat.or_assoc, Nat.or_comm z 16]
end If
set_option linter.unusedVariables false in
set_option maxHeartbeats 1000000 in
theorem head_core (k n a c z : Nat) (b : Bool) (d : ByteArray) (w : World) (hk : k < 8) (hn : n < 32) (ha : a < 32) (hc : c < 8) (hz : z < 4096)
    (A B C0 C D X Z : Nat) (_hA : A < 256) (_hB : B < 256) (_hC : C < 256) (_hD : D < 256) (_hX : X < 256) (T : ByteArray) (hT : T.size = 4)
    (oA : bits .or .i64 ((n : Int) * 8) (c : Int) = (A : Int)) (oB : bits .or .i64 ((a : Int) * 8) (c : Int) = (B : Int)) (sZ : (z : Int) / 256 = (Z : Int)) (oC : bits .or .i64 ((k : Int) * 32) (Z : Int) = (C0 : Int))
    (uA : IntKind.u8.wrap (A : Int) = (A : Int)) (uB : IntKind.u8.wrap (B : Int) = (B : Int)) (uC : IntKind.u8.wrap (C0 : Int) = (C0 : Int)) (uD : IntKind.u8.wrap (z : Int) = (D : Int)) (uX : IntKind.u8.wrap (X : Int) = (X : Int))
    (bC : b = true → bits .or .u8 (C0 : Int) 16 = (C : Int)) (bN : b = false → C0 = C)
    (cv1 : (convert 39 9 (.slice (some ⟨w.heap.size + 1, 1, none⟩) 4 5)).run Try.prog ((w.alloc (.cells #[.int .i64 k, .int .i64 n, .int .i64 a, .int .i64 c, .bool b, .string d] 23)).alloc (.cells #[.int .u8 7, .int .u8 A, .int .u8 B, .int .u8 C, .int .u8 D, .int .u8 0] 54)) = .ok (.string T) ((w.alloc (.cells #[.int .i64 k, .int .i64 n, .int .i64 a, .int .i64 c, .bool b, .string d] 23)).alloc (.cells #[.int .u8 7, .int .u8 A, .int .u8 B, .int .u8 C, .int .u8 D, .int .u8 0] 54)))
    (HX : Hid (∀ w : World, Calls Try.prog 28 #[.string T] w fun e w' => e = .returned (.int .i64 X) ∧ w' = w))
    (H : ByteArray)
    (cv2 : (convert 39 9 (.slice (some ⟨w.heap.size + 1, 0, none⟩) 6 6)).run Try.prog ((w.alloc (.cells #[.int .i64 k, .int .i64 n, .int .i64 a, .int .i64 c, .bool b, .string d] 23)).alloc (.cells #[.int .u8 7, .int .u8 A, .int .u8 B, .int .u8 C, .int .u8 D, .int .u8 X] 54)) = .ok (.string H) ((w.alloc (.cells #[.int .i64 k, .int .i64 n, .int .i64 a, .int .i64 c, .bool b, .string d] 23)).alloc (.cells #[.int .u8 7, .int .u8 A, .int .u8 B, .int .u8 C, .int .u8 D, .int .u8 X] 54))) :
    Calls Try.prog 18 #[.agg #[.int .i64 k, .int .i64 n, .int .i64 a, .int .i64 c, .bool b, .string d], .int .i64 z] w fun e w' => e = .returned (.string H) ∧ Below w.heap.size w w' := by
  have bw := If.more (If.below1 w (.cells #[.int .i64 k, .int .i64 n, .int .i64 a, .int .i64 c, .bool b, .string d] 23)) (.cells #[.int .u8 7, .int .u8 A, .int .u8 B, .int .u8 C, .int .u8 D, .int .u8 X] 54)
  cases b with
  | true =>
    have bC := bC rfl
    clear bN
    go_enter Try.func18, Try.ntmps18
    go_wp2_with (go_at_call 28; refine (HX.out _).mono ?_; rintro e w2 ⟨rfl, rfl⟩)
    go_ret
    exact ⟨rfl, bw⟩
  | false =>
    obtain rfl := bN rfl
    clear bC bN
    go_enter Try.func18, Try.ntmps18
    go_wp2_with (go_at_call 28; refine (HX.out _).mono ?_; rintro e w2 ⟨rfl, rfl⟩)
    go_ret
    exact ⟨rfl, bw⟩
theorem head_any (k n a c z : Nat) (b : Bool) (d : ByteArray) (hk : k < 8) (hn : n < 32) (ha : a < 32) (hc : c < 8) (hz : z < 4096) (w : World) :
    Calls Try.prog 18 #[.agg #[.int .i64 k, .int .i64 n, .int .i64 a, .int .i64 c, .bool b, .string d], .int .i64 z] w fun e w' => e = .returned (.string ⟨(If.hd k n a c b z).toArray⟩) ∧ Below w.heap.size w w' := by
  have oA := If.or_i8 hn hc
  have oB := If.or_i8 ha hc
  have oC := If.or_i32 (z := z / 256) hk (by omega)
  have oD := If.or_u16 (z := z / 256) hk (by omega)
  have hb := If.bit_le b
  have hr : If.hd k n a c b z = If.head (n * 8 + c) (a * 8 + c) (k * 32 + If.bit b + z / 256) (z % 256) := rfl
  have lA : n * 8 + c < 256 := by omega
  have lB : a * 8 + c < 256 := by omega
  have lC : k * 32 + If.bit b + z / 256 < 256 := by omega
  have lD : z % 256 < 256 := by omega
  have lX := If.xor_byte lA lB lC lD
  have bC : b = true → bits .or .u8 ((k * 32 + z / 256 : Nat) : Int) 16 = ((k * 32 + If.bit b + z / 256 : Nat) : Int) := fun e => by subst e; exact oD
  have bN : b = false → k * 32 + z / 256 = k * 32 + If.bit b + z / 256 := fun e => by subst e; rfl
  have lC0 : k * 32 + z / 256 < 256 := by omega
  have uD : IntKind.u8.wrap (z : Int) = ((z % 256 : Nat) : Int) := by rw [IntKind.wrap_u8]; omega
  have sZ : (z : Int) / 256 = ((z / 256 : Nat) : Int) := by omega
  rw [hr]
  unfold If.head
  clear hr hb
  generalize k * 32 + If.bit b + z / 256 = C at *
  generalize hC0 : k * 32 + z / 256 = C0 at *
  generalize n * 8 + c = A at *
  generalize a * 8 + c = B at *
  generalize z % 256 = D at *
  generalize hXX : A ^^^ B ^^^ C ^^^ D = X at *
  have hx : Chk.xor (⟨#[UInt8.ofNat A, UInt8.ofNat B, UInt8.ofNat C, UInt8.ofNat D]⟩ : ByteArray).data.toList = X := by
    rw [← hXX]
    simp [Chk.xor, If.ofNat_toNat lA, If.ofNat_toNat lB, If.ofNat_toNat lC, If.ofNat_toNat lD]
  have HX := fun w => xor_any ⟨#[UInt8.ofNat A, UInt8.ofNat B, UInt8.ofNat C, UInt8.ofNat D]⟩ w (show 4 ≤ maxLen by decide)
  rw [hx] at HX
  have h1 : ∀ X : Nat, ((w.alloc (.cells #[.int .i64 k, .int .i64 n, .int .i64 a, .int .i64 c, .bool b, .string d] 23)).alloc (.cells #[.int .u8 7, .int .u8 A, .int .u8 B, .int .u8 C, .int .u8 D, .int .u8 X] 54)).heap[w.heap.size + 1]? = some (.cells #[.int .u8 7, .int .u8 A, .int .u8 B, .int .u8 C, .int .u8 D, .int .u8 X] 54) := fun X => by
    have := If.heap_new (w.alloc (.cells #[.int .i64 k, .int .i64 n, .int .i64 a, .int .i64 c, .bool b, .string d] 23)) (.cells #[.int .u8 7, .int .u8 A, .int .u8 B, .int .u8 C, .int .u8 D, .int .u8 X] 54)
    rw [If.alloc_size] at this
    exact this
  refine head_core k n a c z b d w hk hn ha hc hz A B C0 C D X (z / 256) lA lB lC lD lX ⟨#[UInt8.ofNat A, UInt8.ofNat B, UInt8.ofNat C, UInt8.ofNat D]⟩ rfl oA oB sZ oC
    (by rw [IntKind.wrap_u8]; omega) (by rw [IntKind.wrap_u8]; omega) (by rw [IntKind.wrap_u8]; omega) uD (by rw [IntKind.wrap_u8]; omega) bC bN ?_ HX _ ?_
  · exact If.conv_at (l := [A, B, C, D]) (h1 0) (by simp; omega) (fun j hj => by
      have : j = 0 ∨ j = 1 ∨ j = 2 ∨ j = 3 := by simp at hj; omega
      rcases this with rfl | rfl | rfl | rfl <;> rfl)
  · exact If.conv_at (l := [7, A, B, C, D, X]) (h1 X) (by simp; omega) (fun j hj => by
      have : j = 0 ∨ j = 1 ∨ j = 2 ∨ j = 3 ∨ j = 4 ∨ j = 5 := by simp at hj; omega
      rcases this with rfl | rfl | rfl | rfl | rfl | rfl <;> rfl)
end Go.Proofs.Ytghelhcmecmldaa
