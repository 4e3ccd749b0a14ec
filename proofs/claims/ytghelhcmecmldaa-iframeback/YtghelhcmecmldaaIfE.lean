/-
  Walks of the laws of layer 12: IframeBack.
-/
import Derived.Test.YtghelhcmecmldaaIfD
namespace Go.Proofs.Ytghelhcmecmldaa
open Go.RowKit
set_option linter.unusedVariables false in
set_option maxHeartbeats 4000000 in
set_option maxRecDepth 100000 in
theorem iback_big1 (k n a c : Int) (b : Bool) (d s : ByteArray) (w : World) (bw : Below w.heap.size w (w.alloc (.cells #[.int .i64 k, .int .i64 n, .int .i64 a, .int .i64 c, .bool b, .string d] 23))) (kw : Rg.Bk w.heap.size [.int .i64 k, .int .i64 n, .int .i64 a, .int .i64 c, .bool b, .string d] 23 (w.alloc (.cells #[.int .i64 k, .int .i64 n, .int .i64 a, .int .i64 c, .bool b, .string d] 23))) (HA : Hid (∀ W, Below w.heap.size w W → Rg.Bk w.heap.size [.int .i64 k, .int .i64 n, .int .i64 a, .int .i64 c, .bool b, .string d] 23 W → Calls Try.prog 9 #[] W fun e w' => e = .returned (.bool true) ∧ Below w.heap.size w w' ∧ Rg.Bk w.heap.size [.int .i64 k, .int .i64 n, .int .i64 a, .int .i64 c, .bool b, .string d] 23 w'))
    (q1 : decide ((5000 : Int) < (d.size : Int)) = true) :
    Calls Try.prog 6 #[.agg #[.int .i64 k, .int .i64 n, .int .i64 a, .int .i64 c, .bool b, .string d], .string s] w fun e w' => e = .returned (.bool true) ∧ Below w.heap.size w w' := by
  go_enter Try.func6, Try.ntmps6
  go_wp2_with (first
    | (go_at_call 9; (first | with_reducible refine (HA.out _ (by first | assumption | exact If.more (by assumption) _) (by first | assumption | exact Rg.Bk.old (by assumption) _)).mono ?_); rintro e w' ⟨rfl, b', k'⟩; have c' := k'.cell; have z' := k'.lt))
  all_goals
    go_ret
    exact ⟨rfl, by first | assumption | exact If.more (by assumption) _⟩
set_option linter.unusedVariables false in
set_option maxHeartbeats 4000000 in
set_option maxRecDepth 100000 in
theorem iback_big2 (k n a c : Int) (b : Bool) (d s : ByteArray) (w : World) (bw : Below w.heap.size w (w.alloc (.cells #[.int .i64 k, .int .i64 n, .int .i64 a, .int .i64 c, .bool b, .string d] 23))) (kw : Rg.Bk w.heap.size [.int .i64 k, .int .i64 n, .int .i64 a, .int .i64 c, .bool b, .string d] 23 (w.alloc (.cells #[.int .i64 k, .int .i64 n, .int .i64 a, .int .i64 c, .bool b, .string d] 23))) (HA : Hid (∀ W, Below w.heap.size w W → Rg.Bk w.heap.size [.int .i64 k, .int .i64 n, .int .i64 a, .int .i64 c, .bool b, .string d] 23 W → Calls Try.prog 9 #[] W fun e w' => e = .returned (.bool true) ∧ Below w.heap.size w w' ∧ Rg.Bk w.heap.size [.int .i64 k, .int .i64 n, .int .i64 a, .int .i64 c, .bool b, .string d] 23 w'))
    (q1 : decide ((5000 : Int) < (d.size : Int)) = false) (q2 : decide ((9000 : Int) < (s.size : Int)) = true) :
    Calls Try.prog 6 #[.agg #[.int .i64 k, .int .i64 n, .int .i64 a, .int .i64 c, .bool b, .string d], .string s] w fun e w' => e = .returned (.bool true) ∧ Below w.heap.size w w' := by
  go_enter Try.func6, Try.ntmps6
  go_wp2_with (first
    | (go_at_call 9; (first | with_reducible refine (HA.out _ (by first | assumption | exact If.more (by assumption) _) (by first | assumption | exact Rg.Bk.old (by assumption) _)).mono ?_); rintro e w' ⟨rfl, b', k'⟩; have c' := k'.cell; have z' := k'.lt))
  all_goals
    go_ret
    exact ⟨rfl, by first | assumption | exact If.more (by assumption) _⟩
set_option linter.unusedVariables false in
set_option maxHeartbeats 4000000 in
set_option maxRecDepth 100000 in
theorem iback_11 (k n a c : Int) (b : Bool) (d s : ByteArray) (w : World) (bw : Below w.heap.size w (w.alloc (.cells #[.int .i64 k, .int .i64 n, .int .i64 a, .int .i64 c, .bool b, .string d] 23))) (kw : Rg.Bk w.heap.size [.int .i64 k, .int .i64 n, .int .i64 a, .int .i64 c, .bool b, .string d] 23 (w.alloc (.cells #[.int .i64 k, .int .i64 n, .int .i64 a, .int .i64 c, .bool b, .string d] 23))) (HA : Hid (∀ W, Below w.heap.size w W → Rg.Bk w.heap.size [.int .i64 k, .int .i64 n, .int .i64 a, .int .i64 c, .bool b, .string d] 23 W → Calls Try.prog 9 #[] W fun e w' => e = .returned (.bool true) ∧ Below w.heap.size w w' ∧ Rg.Bk w.heap.size [.int .i64 k, .int .i64 n, .int .i64 a, .int .i64 c, .bool b, .string d] 23 w'))
    (q1 : decide ((5000 : Int) < (d.size : Int)) = false) (q2 : decide ((9000 : Int) < (s.size : Int)) = false) (X : ByteArray) (hX : X.size ≤ 5000) (hm2 : s.size ≤ 9000) (k2 n2 a2 c2 : Int) (b2 : Bool) (d2 Y : ByteArray) (N : Nat) (n1 : decide ((N : Int) < 6) = false) (n3 : (Y.toList == (s.extract 0 N).toList) = true) (n4 : N ≤ s.size) (n5 : (N : Int) ≤ (s.size : Int))
    (HW : Hid (∀ W, Below w.heap.size w W → Rg.Bk w.heap.size [.int .i64 k, .int .i64 n, .int .i64 a, .int .i64 c, .bool b, .string d] 23 W → Calls Try.prog 10 #[.agg #[.int .i64 k, .int .i64 n, .int .i64 a, .int .i64 c, .bool b, .string d]] W fun e w' => e = .returned (.tuple #[.string X, .int .i64 0]) ∧ Below w.heap.size w w' ∧ Rg.Bk w.heap.size [.int .i64 k, .int .i64 n, .int .i64 a, .int .i64 c, .bool b, .string d] 23 w'))
    (HR : Hid (∀ W, Below w.heap.size w W → Rg.Bk w.heap.size [.int .i64 k, .int .i64 n, .int .i64 a, .int .i64 c, .bool b, .string d] 23 W → Calls Try.prog 12 #[.string (X ++ s)] W fun e w' => e = .returned (.tuple #[.agg #[.int .i64 k, .int .i64 n, .int .i64 a, .int .i64 c, .bool b, .string d], .int .i64 X.size, .int .i64 0]) ∧ Below w.heap.size w w' ∧ Rg.Bk w.heap.size [.int .i64 k, .int .i64 n, .int .i64 a, .int .i64 c, .bool b, .string d] 23 w'))
    (HS : Hid (∀ W, Below w.heap.size w W → Rg.Bk w.heap.size [.int .i64 k, .int .i64 n, .int .i64 a, .int .i64 c, .bool b, .string d] 23 W → Calls Try.prog 12 #[.string s] W fun e w' => e = .returned (.tuple #[.agg #[.int .i64 k2, .int .i64 n2, .int .i64 a2, .int .i64 c2, .bool b2, .string d2], .int .i64 N, .int .i64 0]) ∧ Below w.heap.size w w' ∧ Rg.Bk w.heap.size [.int .i64 k, .int .i64 n, .int .i64 a, .int .i64 c, .bool b, .string d] 23 w'))
    (HV : Hid (∀ W, Below w.heap.size w W → Rg.Bk w.heap.size [.int .i64 k, .int .i64 n, .int .i64 a, .int .i64 c, .bool b, .string d] 23 W → Calls Try.prog 10 #[.agg #[.int .i64 k2, .int .i64 n2, .int .i64 a2, .int .i64 c2, .bool b2, .string d2]] W fun e w' => e = .returned (.tuple #[.string Y, .int .i64 0]) ∧ Below w.heap.size w w' ∧ Rg.Bk w.heap.size [.int .i64 k, .int .i64 n, .int .i64 a, .int .i64 c, .bool b, .string d] 23 w')) :
    Calls Try.prog 6 #[.agg #[.int .i64 k, .int .i64 n, .int .i64 a, .int .i64 c, .bool b, .string d], .string s] w fun e w' => e = .returned (.bool true) ∧ Below w.heap.size w w' := by
  go_enter Try.func6, Try.ntmps6
  go_wp2_with (first
    | (go_at_call 9; (first | with_reducible refine (HA.out _ (by first | assumption | exact If.more (by assumption) _) (by first | assumption | exact Rg.Bk.old (by assumption) _)).mono ?_); rintro e w' ⟨rfl, b', k'⟩; have c' := k'.cell; have z' := k'.lt)
    | (go_at_call 10; (first | with_reducible refine (HW.out _ (by first | assumption | exact If.more (by assumption) _) (by first | assumption | exact Rg.Bk.old (by assumption) _)).mono ?_ | with_reducible refine (HV.out _ (by first | assumption | exact If.more (by assumption) _) (by first | assumption | exact Rg.Bk.old (by assumption) _)).mono ?_); rintro e w' ⟨rfl, b', k'⟩; have c' := k'.cell; have z' := k'.lt)
    | (go_at_call 12; (first | with_reducible refine (HS.out _ (by first | assumption | exact If.more (by assumption) _) (by first | assumption | exact Rg.Bk.old (by assumption) _)).mono ?_ | with_reducible refine (HR.out _ (by first | assumption | exact If.more (by assumption) _) (by first | assumption | exact Rg.Bk.old (by assumption) _)).mono ?_); rintro e w' ⟨rfl, b', k'⟩; have c' := k'.cell; have z' := k'.lt))
  all_goals
    go_ret
    exact ⟨rfl, by first | assumption | exact If.more (by assumption) _⟩
set_option linter.unusedVariables false in
set_option maxHeartbeats 4000000 in
set_option maxRecDepth 100000 in
theorem iback_10 (k n a c : Int) (b : Bool) (d s : ByteArray) (w : World) (bw : Below w.heap.size w (w.alloc (.cells #[.int .i64 k, .int .i64 n, .int .i64 a, .int .i64 c, .bool b, .string d] 23))) (kw : Rg.Bk w.heap.size [.int .i64 k, .int .i64 n, .int .i64 a, .int .i64 c, .bool b, .string d] 23 (w.alloc (.cells #[.int .i64 k, .int .i64 n, .int .i64 a, .int .i64 c, .bool b, .string d] 23))) (HA : Hid (∀ W, Below w.heap.size w W → Rg.Bk w.heap.size [.int .i64 k, .int .i64 n, .int .i64 a, .int .i64 c, .bool b, .string d] 23 W → Calls Try.prog 9 #[] W fun e w' => e = .returned (.bool true) ∧ Below w.heap.size w w' ∧ Rg.Bk w.heap.size [.int .i64 k, .int .i64 n, .int .i64 a, .int .i64 c, .bool b, .string d] 23 w'))
    (q1 : decide ((5000 : Int) < (d.size : Int)) = false) (q2 : decide ((9000 : Int) < (s.size : Int)) = false) (X : ByteArray) (hX : X.size ≤ 5000) (hm2 : s.size ≤ 9000) (E : Nat) (hE : ((E : Int) == 0) = false)
    (HW : Hid (∀ W, Below w.heap.size w W → Rg.Bk w.heap.size [.int .i64 k, .int .i64 n, .int .i64 a, .int .i64 c, .bool b, .string d] 23 W → Calls Try.prog 10 #[.agg #[.int .i64 k, .int .i64 n, .int .i64 a, .int .i64 c, .bool b, .string d]] W fun e w' => e = .returned (.tuple #[.string X, .int .i64 0]) ∧ Below w.heap.size w w' ∧ Rg.Bk w.heap.size [.int .i64 k, .int .i64 n, .int .i64 a, .int .i64 c, .bool b, .string d] 23 w'))
    (HR : Hid (∀ W, Below w.heap.size w W → Rg.Bk w.heap.size [.int .i64 k, .int .i64 n, .int .i64 a, .int .i64 c, .bool b, .string d] 23 W → Calls Try.prog 12 #[.string (X ++ s)] W fun e w' => e = .returned (.tuple #[.agg #[.int .i64 k, .int .i64 n, .int .i64 a, .int .i64 c, .bool b, .string d], .int .i64 X.size, .int .i64 0]) ∧ Below w.heap.size w w' ∧ Rg.Bk w.heap.size [.int .i64 k, .int .i64 n, .int .i64 a, .int .i64 c, .bool b, .string d] 23 w'))
    (HS : Hid (∀ W, Below w.heap.size w W → Rg.Bk w.heap.size [.int .i64 k, .int .i64 n, .int .i64 a, .int .i64 c, .bool b, .string d] 23 W → Calls Try.prog 12 #[.string s] W fun e w' => e = .returned (.tuple #[.agg #[.int .i64 0, .int .i64 0, .int .i64 0, .int .i64 0, .bool false, .string ⟨#[]⟩], .int .i64 0, .int .i64 E]) ∧ Below w.heap.size w w' ∧ Rg.Bk w.heap.size [.int .i64 k, .int .i64 n, .int .i64 a, .int .i64 c, .bool b, .string d] 23 w')) :
    Calls Try.prog 6 #[.agg #[.int .i64 k, .int .i64 n, .int .i64 a, .int .i64 c, .bool b, .string d], .string s] w fun e w' => e = .returned (.bool true) ∧ Below w.heap.size w w' := by
  go_enter Try.func6, Try.ntmps6
  go_wp2_with (first
    | (go_at_call 9; (first | with_reducible refine (HA.out _ (by first | assumption | exact If.more (by assumption) _) (by first | assumption | exact Rg.Bk.old (by assumption) _)).mono ?_); rintro e w' ⟨rfl, b', k'⟩; have c' := k'.cell; have z' := k'.lt)
    | (go_at_call 10; (first | with_reducible refine (HW.out _ (by first | assumption | exact If.more (by assumption) _) (by first | assumption | exact Rg.Bk.old (by assumption) _)).mono ?_); rintro e w' ⟨rfl, b', k'⟩; have c' := k'.cell; have z' := k'.lt)
    | (go_at_call 12; (first | with_reducible refine (HS.out _ (by first | assumption | exact If.more (by assumption) _) (by first | assumption | exact Rg.Bk.old (by assumption) _)).mono ?_ | with_reducible refine (HR.out _ (by first | assumption | exact If.more (by assumption) _) (by first | assumption | exact Rg.Bk.old (by assumption) _)).mono ?_); rintro e w' ⟨rfl, b', k'⟩; have c' := k'.cell; have z' := k'.lt))
  all_goals
    go_ret
    exact ⟨rfl, by first | assumption | exact If.more (by assumption) _⟩
set_option linter.unusedVariables false in
set_option maxHeartbeats 4000000 in
set_option maxRecDepth 100000 in
theorem iback_01 (k n a c : Int) (b : Bool) (d s : ByteArray) (w : World) (bw : Below w.heap.size w (w.alloc (.cells #[.int .i64 k, .int .i64 n, .int .i64 a, .int .i64 c, .bool b, .string d] 23))) (kw : Rg.Bk w.heap.size [.int .i64 k, .int .i64 n, .int .i64 a, .int .i64 c, .bool b, .string d] 23 (w.alloc (.cells #[.int .i64 k, .int .i64 n, .int .i64 a, .int .i64 c, .bool b, .string d] 23))) (HA : Hid (∀ W, Below w.heap.size w W → Rg.Bk w.heap.size [.int .i64 k, .int .i64 n, .int .i64 a, .int .i64 c, .bool b, .string d] 23 W → Calls Try.prog 9 #[] W fun e w' => e = .returned (.bool true) ∧ Below w.heap.size w w' ∧ Rg.Bk w.heap.size [.int .i64 k, .int .i64 n, .int .i64 a, .int .i64 c, .bool b, .string d] 23 w'))
    (q1 : decide ((5000 : Int) < (d.size : Int)) = false) (q2 : decide ((9000 : Int) < (s.size : Int)) = false) (k2 n2 a2 c2 : Int) (b2 : Bool) (d2 Y : ByteArray) (N : Nat) (F : Nat) (hF : ((F : Int) == 0) = false) (n1 : decide ((N : Int) < 6) = false) (n3 : (Y.toList == (s.extract 0 N).toList) = true) (n4 : N ≤ s.size) (n5 : (N : Int) ≤ (s.size : Int))
    (HW : Hid (∀ W, Below w.heap.size w W → Rg.Bk w.heap.size [.int .i64 k, .int .i64 n, .int .i64 a, .int .i64 c, .bool b, .string d] 23 W → Calls Try.prog 10 #[.agg #[.int .i64 k, .int .i64 n, .int .i64 a, .int .i64 c, .bool b, .string d]] W fun e w' => e = .returned (.tuple #[.string ⟨#[]⟩, .int .i64 F]) ∧ Below w.heap.size w w' ∧ Rg.Bk w.heap.size [.int .i64 k, .int .i64 n, .int .i64 a, .int .i64 c, .bool b, .string d] 23 w'))
    (HS : Hid (∀ W, Below w.heap.size w W → Rg.Bk w.heap.size [.int .i64 k, .int .i64 n, .int .i64 a, .int .i64 c, .bool b, .string d] 23 W → Calls Try.prog 12 #[.string s] W fun e w' => e = .returned (.tuple #[.agg #[.int .i64 k2, .int .i64 n2, .int .i64 a2, .int .i64 c2, .bool b2, .string d2], .int .i64 N, .int .i64 0]) ∧ Below w.heap.size w w' ∧ Rg.Bk w.heap.size [.int .i64 k, .int .i64 n, .int .i64 a, .int .i64 c, .bool b, .string d] 23 w'))
    (HV : Hid (∀ W, Below w.heap.size w W → Rg.Bk w.heap.size [.int .i64 k, .int .i64 n, .int .i64 a, .int .i64 c, .bool b, .string d] 23 W → Calls Try.prog 10 #[.agg #[.int .i64 k2, .int .i64 n2, .int .i64 a2, .int .i64 c2, .bool b2, .string d2]] W fun e w' => e = .returned (.tuple #[.string Y, .int .i64 0]) ∧ Below w.heap.size w w' ∧ Rg.Bk w.heap.size [.int .i64 k, .int .i64 n, .int .i64 a, .int .i64 c, .bool b, .string d] 23 w')) :
    Calls Try.prog 6 #[.agg #[.int .i64 k, .int .i64 n, .int .i64 a, .int .i64 c, .bool b, .string d], .string s] w fun e w' => e = .returned (.bool true) ∧ Below w.heap.size w w' := by
  go_enter Try.func6, Try.ntmps6
  go_wp2_with (first
    | (go_at_call 9; (first | with_reducible refine (HA.out _ (by first | assumption | exact If.more (by assumption) _) (by first | assumption | exact Rg.Bk.old (by assumption) _)).mono ?_); rintro e w' ⟨rfl, b', k'⟩; have c' := k'.cell; have z' := k'.lt)
    | (go_at_call 10; (first | with_reducible refine (HW.out _ (by first | assumption | exact If.more (by assumption) _) (by first | assumption | exact Rg.Bk.old (by assumption) _)).mono ?_ | with_reducible refine (HV.out _ (by first | assumption | exact If.more (by assumption) _) (by first | assumption | exact Rg.Bk.old (by assumption) _)).mono ?_); rintro e w' ⟨rfl, b', k'⟩; have c' := k'.cell; have z' := k'.lt)
    | (go_at_call 12; (first | with_reducible refine (HS.out _ (by first | assumption | exact If.more (by assumption) _) (by first | assumption | exact Rg.Bk.old (by assumption) _)).mono ?_); rintro e w' ⟨rfl, b', k'⟩; have c' := k'.cell; have z' := k'.lt))
  all_goals
    go_ret
    exact ⟨rfl, by first | assumption | exact If.more (by assumption) _⟩
set_option linter.unusedVariables false in
set_option maxHeartbeats 4000000 in
set_option maxRecDepth 100000 in
theorem iback_00 (k n a c : Int) (b : Bool) (d s : ByteArray) (w : World) (bw : Below w.heap.size w (w.alloc (.cells #[.int .i64 k, .int .i64 n, .int .i64 a, .int .i64 c, .bool b, .string d] 23))) (kw : Rg.Bk w.heap.size [.int .i64 k, .int .i64 n, .int .i64 a, .int .i64 c, .bool b, .string d] 23 (w.alloc (.cells #[.int .i64 k, .int .i64 n, .int .i64 a, .int .i64 c, .bool b, .string d] 23))) (HA : Hid (∀ W, Below w.heap.size w W → Rg.Bk w.heap.size [.int .i64 k, .int .i64 n, .int .i64 a, .int .i64 c, .bool b, .string d] 23 W → Calls Try.prog 9 #[] W fun e w' => e = .returned (.bool true) ∧ Below w.heap.size w w' ∧ Rg.Bk w.heap.size [.int .i64 k, .int .i64 n, .int .i64 a, .int .i64 c, .bool b, .string d] 23 w'))
    (q1 : decide ((5000 : Int) < (d.size : Int)) = false) (q2 : decide ((9000 : Int) < (s.size : Int)) = false) (E : Nat) (hE : ((E : Int) == 0) = false) (F : Nat) (hF : ((F : Int) == 0) = false)
    (HW : Hid (∀ W, Below w.heap.size w W → Rg.Bk w.heap.size [.int .i64 k, .int .i64 n, .int .i64 a, .int .i64 c, .bool b, .string d] 23 W → Calls Try.prog 10 #[.agg #[.int .i64 k, .int .i64 n, .int .i64 a, .int .i64 c, .bool b, .string d]] W fun e w' => e = .returned (.tuple #[.string ⟨#[]⟩, .int .i64 F]) ∧ Below w.heap.size w w' ∧ Rg.Bk w.heap.size [.int .i64 k, .int .i64 n, .int .i64 a, .int .i64 c, .bool b, .string d] 23 w'))
    (HS : Hid (∀ W, Below w.heap.size w W → Rg.Bk w.heap.size [.int .i64 k, .int .i64 n, .int .i64 a, .int .i64 c, .bool b, .string d] 23 W → Calls Try.prog 12 #[.string s] W fun e w' => e = .returned (.tuple #[.agg #[.int .i64 0, .int .i64 0, .int .i64 0, .int .i64 0, .bool false, .string ⟨#[]⟩], .int .i64 0, .int .i64 E]) ∧ Below w.heap.size w w' ∧ Rg.Bk w.heap.size [.int .i64 k, .int .i64 n, .int .i64 a, .int .i64 c, .bool b, .string d] 23 w')) :
    Calls Try.prog 6 #[.agg #[.int .i64 k, .int .i64 n, .int .i64 a, .int .i64 c, .bool b, .string d], .string s] w fun e w' => e = .returned (.bool true) ∧ Below w.heap.size w w' := by
  go_enter Try.func6, Try.ntmps6
  go_wp2_with (first
    | (go_at_call 9; (first | with_reducible refine (HA.out _ (by first | assumption | exact If.more (by assumption) _) (by first | assumption | exact Rg.Bk.old (by assumption) _)).mono ?_); rintro e w' ⟨rfl, b', k'⟩; have c' := k'.cell; have z' := k'.lt)
    | (go_at_call 10; (first | with_reducible refine (HW.out _ (by first | assumption | exact If.more (by assumption) _) (by first | assumption | exact Rg.Bk.old (by assumption) _)).mono ?_); rintro e w' ⟨rfl, b', k'⟩; have c' := k'.cell; have z' := k'.lt)
    | (go_at_call 12; (first | with_reducible refine (HS.out _ (by first | assumption | exact If.more (by assumption) _) (by first | assumption | exact Rg.Bk.old (by assumption) _)).mono ?_); rintro e w' ⟨rfl, b', k'⟩; have c' := k'.cell; have z' := k'.lt))
  all_goals
    go_ret
    exact ⟨rfl, by first | assumption | exact If.more (by assumption) _⟩
theorem iback_walk (k n a c : Int) (b : Bool) (d s : ByteArray) (_hd : d.size ≤ maxLen) (hs : s.size ≤ maxLen) (w : World) :
    Calls Try.prog 6 #[.agg #[.int .i64 k, .int .i64 n, .int .i64 a, .int .i64 c, .bool b, .string d], .string s] w fun e w' => e = .returned (.bool true) ∧ Below w.heap.size w w' := by
  have bw := If.below1 w (.cells #[.int .i64 k, .int .i64 n, .int .i64 a, .int .i64 c, .bool b, .string d] 23)
  have kw : Rg.Bk w.heap.size [.int .i64 k, .int .i64 n, .int .i64 a, .int .i64 c, .bool b, .string d] 23 (w.alloc (.cells #[.int .i64 k, .int .i64 n, .int .i64 a, .int .i64 c, .bool b, .string d] 23)) := Rg.Bk.new rfl
  have HA := keepF (C := [.int .i64 k, .int .i64 n, .int .i64 a, .int .i64 c, .bool b, .string d]) (ty := 23) w iawake_any
  by_cases q1 : 5000 < d.size
  · exact iback_big1 k n a c b d s w bw kw HA (by simp; omega)
  have q1' : decide ((5000 : Int) < (d.size : Int)) = false := by simp; omega
  by_cases q2 : 9000 < s.size
  · exact iback_big2 k n a c b d s w bw kw HA q1' (by simp; omega)
  have q2' : decide ((9000 : Int) < (s.size : Int)) = false := by simp; omega
  have hm2 : s.size ≤ 9000 := by omega
  have HS := fun W => iread_any s hs W
  by_cases hk : If.ok ⟨k, n, a, c, b, d.data.toList⟩
  · have hX := (If.text_size hk).1
    have HW := keepF (C := [.int .i64 k, .int .i64 n, .int .i64 a, .int .i64 c, .bool b, .string d]) (ty := 23) w (fun W => iwrite_ok hk W)
    have HR := keepF (C := [.int .i64 k, .int .i64 n, .int .i64 a, .int .i64 c, .bool b, .string d]) (ty := 23) w (fun W => by
      have h := iread_any ((⟨(If.text ⟨k, n, a, c, b, d.data.toList⟩).toArray⟩ : ByteArray) ++ s) (by rw [If.app_size]; unfold maxLen; omega) W
      rw [If.app_toList, If.read_text hk, ← If.size_of] at h
      exact h)
    cases hr : If.read s.data.toList with
    | ok g =>
      rw [hr] at HS
      obtain ⟨g, m⟩ := g
      obtain ⟨hg, htx, h6, hn⟩ := If.text_read hr
      rw [If.len_eq] at hn
      obtain ⟨k2, n2, a2, c2, b2, d2⟩ := g
      have HV := fun W => iwrite_ok (d := ⟨d2.toArray⟩) hg W
      refine iback_11 k n a c b d s w bw kw HA q1' q2' _ (by omega) hm2 k2 n2 a2 c2 b2 ⟨d2.toArray⟩ _ m (by simp; omega) ?_ hn (by omega) HW HR (keepF w HS) (keepF w HV)
      rw [tl_eq, tl_eq, If.extract_eq s 0 m (by omega) hn]
      exact beq_iff_eq.2 htx
    | error e =>
      rw [hr] at HS
      have he : ¬ e = 0 := fun h => If.read_err0 _ (by rw [hr, h])
      exact iback_10 k n a c b d s w bw kw HA q1' q2' _ (by omega) hm2 e (beq_eq_false_iff_ne.2 (by omega)) HW HR (keepF w HS)
  · obtain ⟨F, hF, HW0⟩ := iwrite_not hk
    have HW := keepF (C := [.int .i64 k, .int .i64 n, .int .i64 a, .int .i64 c, .bool b, .string d]) (ty := 23) w HW0
    cases hr : If.read s.data.toList with
    | ok g =>
      rw [hr] at HS
      obtain ⟨g, m⟩ := g
      obtain ⟨hg, htx, h6, hn⟩ := If.text_read hr
      rw [If.len_eq] at hn
      obtain ⟨k2, n2, a2, c2, b2, d2⟩ := g
      have HV := fun W => iwrite_ok (d := ⟨d2.toArray⟩) hg W
      refine iback_01 k n a c b d s w bw kw HA q1' q2' k2 n2 a2 c2 b2 ⟨d2.toArray⟩ _ m F hF (by simp; omega) ?_ hn (by omega) HW (keepF w HS) (keepF w HV)
      rw [tl_eq, tl_eq, If.extract_eq s 0 m (by omega) hn]
      exact beq_iff_eq.2 htx
    | error e =>
      rw [hr] at HS
      have he : ¬ e = 0 := fun h => If.read_err0 _ (by rw [hr, h])
      exact iback_00 k n a c b d s w bw kw HA q1' q2' e (beq_eq_false_iff_ne.2 (by omega)) F hF HW (keepF w HS)
end Go.Proofs.Ytghelhcmecmldaa
