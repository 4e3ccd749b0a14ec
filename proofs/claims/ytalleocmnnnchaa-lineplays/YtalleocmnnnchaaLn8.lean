/-
  Layer 7: Take, Open, carries, isUnder: what they hand back, cell by cell.
-/
import Derived.Test.YtalleocmnnnchaaLn7
namespace Go.Proofs.Ytalleocmnnnchaa
open Go.RowKit

set_option maxHeartbeats 1000000 in
set_option maxRecDepth 100000 in
theorem ltake_bad (x0 : ByteArray) (p0 : Int) (b0 : Option Addr) (bn0 bc0 : Nat) (g0 : Option Addr) (gn0 gc0 : Nat) (x1 : ByteArray) (p1 : Int) (b1 : Option Addr) (bn1 bc1 : Nat) (g1 : Option Addr) (gn1 gc1 : Nat) (up : Bool) (n m : Int) (w : World) (h0 : n ≠ 0) (h1 : n ≠ 1) : Calls Try.prog 19 #[.agg #[.string x0, .int .i64 p0, .slice b0 bn0 bc0, .slice g0 gn0 gc0, .string x1, .int .i64 p1, .slice b1 bn1 bc1, .slice g1 gn1 gc1, .bool up], .int .i64 n, .int .i64 m] w fun e w' => e = .returned (.tuple #[.agg #[.string x0, .int .i64 p0, .slice b0 bn0 bc0, .slice g0 gn0 gc0, .string x1, .int .i64 p1, .slice b1 bn1 bc1, .slice g1 gn1 gc1, .bool up], .string ⟨#[]⟩]) ∧ Below w.heap.size w w' := by
  have HW : Hid (∀ W, Calls Try.prog 33 #[.int .i64 n] W fun e w' => e = .returned (.bool false) ∧ w' = W) := fun W => by have := lway_any n W; rw [show decide (n = 0 ∨ n = 1) = false by simp [h0, h1]] at this; exact this
  go_enter Try.func19, Try.ntmps19
  go_wp2_with (go_at_call 33; refine (HW.out _).mono ?_; rintro e w' ⟨rfl, rfl⟩)
  exact bodyPost_ret (v := .tuple #[.agg #[.string x0, .int .i64 p0, .slice b0 bn0 bc0, .slice g0 gn0 gc0, .string x1, .int .i64 p1, .slice b1 bn1 bc1, .slice g1 gn1 gc1, .bool up], .string ⟨#[]⟩]) (by simp [results, Try.results19, go_sem]) rfl ⟨rfl, Rg.al2 _ _ _⟩

set_option maxHeartbeats 1000000 in
set_option maxRecDepth 100000 in
theorem ltake_none0 (x0 : ByteArray) (p0 : Int) (b0 : Option Addr) (bn0 bc0 : Nat) (g0 : Option Addr) (gn0 gc0 : Nat) (x1 : ByteArray) (p1 : Int) (b1 : Option Addr) (bn1 bc1 : Nat) (g1 : Option Addr) (gn1 gc1 : Nat) (up : Bool) (m : Int) (w : World) (hm : m < 1) : Calls Try.prog 19 #[.agg #[.string x0, .int .i64 p0, .slice b0 bn0 bc0, .slice g0 gn0 gc0, .string x1, .int .i64 p1, .slice b1 bn1 bc1, .slice g1 gn1 gc1, .bool up], .int .i64 0, .int .i64 m] w fun e w' => e = .returned (.tuple #[.agg #[.string x0, .int .i64 p0, .slice b0 bn0 bc0, .slice g0 gn0 gc0, .string x1, .int .i64 p1, .slice b1 bn1 bc1, .slice g1 gn1 gc1, .bool up], .string ⟨#[]⟩]) ∧ Below w.heap.size w w' := by
  have HW : Hid (∀ W, Calls Try.prog 33 #[.int .i64 0] W fun e w' => e = .returned (.bool true) ∧ w' = W) := fun W => lway_any 0 W
  have dm : decide (m < (1 : Int)) = true := by simp; omega
  go_enter Try.func19, Try.ntmps19
  go_wp2_with (go_at_call 33; refine (HW.out _).mono ?_; rintro e w' ⟨rfl, rfl⟩)
  exact bodyPost_ret (v := .tuple #[.agg #[.string x0, .int .i64 p0, .slice b0 bn0 bc0, .slice g0 gn0 gc0, .string x1, .int .i64 p1, .slice b1 bn1 bc1, .slice g1 gn1 gc1, .bool up], .string ⟨#[]⟩]) (by simp [results, Try.results19, go_sem]) rfl ⟨rfl, Rg.al2 _ _ _⟩

set_option maxHeartbeats 1000000 in
set_option maxRecDepth 100000 in
theorem ltake_some0 (x0 : ByteArray) (p0 : Int) (b0 : Option Addr) (bn0 bc0 : Nat) (g0 : Option Addr) (gn0 gc0 : Nat) (x1 : ByteArray) (p1 : Int) (b1 : Option Addr) (bn1 bc1 : Nat) (g1 : Option Addr) (gn1 gc1 : Nat) (up : Bool) (m : Int) (M : Nat) (w : World) (hm : 1 ≤ m) (hM : min m (x0.size : Int) = (M : Int)) (hx : x0.size ≤ 1000000000) (hp : 0 ≤ p0) (hp2 : p0 ≤ 1000000000000) : Calls Try.prog 19 #[.agg #[.string x0, .int .i64 p0, .slice b0 bn0 bc0, .slice g0 gn0 gc0, .string x1, .int .i64 p1, .slice b1 bn1 bc1, .slice g1 gn1 gc1, .bool up], .int .i64 0, .int .i64 m] w fun e w' => e = .returned (.tuple #[.agg #[.string (x0.extract M x0.size), .int .i64 (p0 + M), .slice b0 bn0 bc0, .slice g0 gn0 gc0, .string x1, .int .i64 p1, .slice b1 bn1 bc1, .slice g1 gn1 gc1, .bool up], .string (x0.extract 0 M)]) ∧ Below w.heap.size w w' := by
  have HW : Hid (∀ W, Calls Try.prog 33 #[.int .i64 0] W fun e w' => e = .returned (.bool true) ∧ w' = W) := fun W => lway_any 0 W
  have dm : decide (m < (1 : Int)) = false := by simp; omega
  have hz0 : (0 : Int) ≤ (M : Int) := by omega
  have hz1 : (M : Int) ≤ (x0.size : Int) := by omega
  have hw1 : IntKind.i64.wrap (p0 + (M : Int)) = p0 + (M : Int) := by rw [IntKind.wrap_i64]; omega
  go_enter Try.func19, Try.ntmps19
  go_wp2_with (go_at_call 33; refine (HW.out _).mono ?_; rintro e w' ⟨rfl, rfl⟩)
  exact bodyPost_ret (v := .tuple #[.agg #[.string (x0.extract M x0.size), .int .i64 (p0 + M), .slice b0 bn0 bc0, .slice g0 gn0 gc0, .string x1, .int .i64 p1, .slice b1 bn1 bc1, .slice g1 gn1 gc1, .bool up], .string (x0.extract 0 M)]) (by simp [results, Try.results19, go_sem]) rfl ⟨rfl, Rg.al2 _ _ _⟩

set_option maxHeartbeats 1000000 in
set_option maxRecDepth 100000 in
theorem ltake_none1 (x0 : ByteArray) (p0 : Int) (b0 : Option Addr) (bn0 bc0 : Nat) (g0 : Option Addr) (gn0 gc0 : Nat) (x1 : ByteArray) (p1 : Int) (b1 : Option Addr) (bn1 bc1 : Nat) (g1 : Option Addr) (gn1 gc1 : Nat) (up : Bool) (m : Int) (w : World) (hm : m < 1) : Calls Try.prog 19 #[.agg #[.string x0, .int .i64 p0, .slice b0 bn0 bc0, .slice g0 gn0 gc0, .string x1, .int .i64 p1, .slice b1 bn1 bc1, .slice g1 gn1 gc1, .bool up], .int .i64 1, .int .i64 m] w fun e w' => e = .returned (.tuple #[.agg #[.string x0, .int .i64 p0, .slice b0 bn0 bc0, .slice g0 gn0 gc0, .string x1, .int .i64 p1, .slice b1 bn1 bc1, .slice g1 gn1 gc1, .bool up], .string ⟨#[]⟩]) ∧ Below w.heap.size w w' := by
  have HW : Hid (∀ W, Calls Try.prog 33 #[.int .i64 1] W fun e w' => e = .returned (.bool true) ∧ w' = W) := fun W => lway_any 1 W
  have dm : decide (m < (1 : Int)) = true := by simp; omega
  go_enter Try.func19, Try.ntmps19
  go_wp2_with (go_at_call 33; refine (HW.out _).mono ?_; rintro e w' ⟨rfl, rfl⟩)
  exact bodyPost_ret (v := .tuple #[.agg #[.string x0, .int .i64 p0, .slice b0 bn0 bc0, .slice g0 gn0 gc0, .string x1, .int .i64 p1, .slice b1 bn1 bc1, .slice g1 gn1 gc1, .bool up], .string ⟨#[]⟩]) (by simp [results, Try.results19, go_sem]) rfl ⟨rfl, Rg.al2 _ _ _⟩

set_option maxHeartbeats 1000000 in
set_option maxRecDepth 100000 in
theorem ltake_some1 (x0 : ByteArray) (p0 : Int) (b0 : Option Addr) (bn0 bc0 : Nat) (g0 : Option Addr) (gn0 gc0 : Nat) (x1 : ByteArray) (p1 : Int) (b1 : Option Addr) (bn1 bc1 : Nat) (g1 : Option Addr) (gn1 gc1 : Nat) (up : Bool) (m : Int) (M : Nat) (w : World) (hm : 1 ≤ m) (hM : min m (x1.size : Int) = (M : Int)) (hx : x1.size ≤ 1000000000) (hp : 0 ≤ p1) (hp2 : p1 ≤ 1000000000000) : Calls Try.prog 19 #[.agg #[.string x0, .int .i64 p0, .slice b0 bn0 bc0, .slice g0 gn0 gc0, .string x1, .int .i64 p1, .slice b1 bn1 bc1, .slice g1 gn1 gc1, .bool up], .int .i64 1, .int .i64 m] w fun e w' => e = .returned (.tuple #[.agg #[.string x0, .int .i64 p0, .slice b0 bn0 bc0, .slice g0 gn0 gc0, .string (x1.extract M x1.size), .int .i64 (p1 + M), .slice b1 bn1 bc1, .slice g1 gn1 gc1, .bool up], .string (x1.extract 0 M)]) ∧ Below w.heap.size w w' := by
  have HW : Hid (∀ W, Calls Try.prog 33 #[.int .i64 1] W fun e w' => e = .returned (.bool true) ∧ w' = W) := fun W => lway_any 1 W
  have dm : decide (m < (1 : Int)) = false := by simp; omega
  have hz0 : (0 : Int) ≤ (M : Int) := by omega
  have hz1 : (M : Int) ≤ (x1.size : Int) := by omega
  have hw1 : IntKind.i64.wrap (p1 + (M : Int)) = p1 + (M : Int) := by rw [IntKind.wrap_i64]; omega
  go_enter Try.func19, Try.ntmps19
  go_wp2_with (go_at_call 33; refine (HW.out _).mono ?_; rintro e w' ⟨rfl, rfl⟩)
  exact bodyPost_ret (v := .tuple #[.agg #[.string x0, .int .i64 p0, .slice b0 bn0 bc0, .slice g0 gn0 gc0, .string (x1.extract M x1.size), .int .i64 (p1 + M), .slice b1 bn1 bc1, .slice g1 gn1 gc1, .bool up], .string (x1.extract 0 M)]) (by simp [results, Try.results19, go_sem]) rfl ⟨rfl, Rg.al2 _ _ _⟩

set_option maxHeartbeats 1000000 in
set_option maxRecDepth 100000 in
theorem lopen_up (x0 : ByteArray) (p0 : Int) (b0 : Option Addr) (bn0 bc0 : Nat) (g0 : Option Addr) (gn0 gc0 : Nat) (x1 : ByteArray) (p1 : Int) (b1 : Option Addr) (bn1 bc1 : Nat) (g1 : Option Addr) (gn1 gc1 : Nat) (w : World)  : Calls Try.prog 24 #[.agg #[.string x0, .int .i64 p0, .slice b0 bn0 bc0, .slice g0 gn0 gc0, .string x1, .int .i64 p1, .slice b1 bn1 bc1, .slice g1 gn1 gc1, .bool true]] w fun e w' => e = .returned (.tuple #[.agg #[.string x0, .int .i64 p0, .slice b0 bn0 bc0, .slice g0 gn0 gc0, .string x1, .int .i64 p1, .slice b1 bn1 bc1, .slice g1 gn1 gc1, .bool true], .int .i64 10]) ∧ Below w.heap.size w w' := by
  go_enter Try.func24, Try.ntmps24
  go_wp2
  exact bodyPost_ret (v := .tuple #[.agg #[.string x0, .int .i64 p0, .slice b0 bn0 bc0, .slice g0 gn0 gc0, .string x1, .int .i64 p1, .slice b1 bn1 bc1, .slice g1 gn1 gc1, .bool true], .int .i64 10]) (by simp [results, Try.results24, go_sem]) rfl ⟨rfl, Rg.al2 _ _ _⟩
end Go.Proofs.Ytalleocmnnnchaa
