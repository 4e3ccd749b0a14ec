/-
  Walks of the laws of layer 11: GframeBack.
-/
import Derived.Test.YtpgjdobgfhhbiaaGwG
namespace Go.Proofs.Ytpgjdobgfhhbiaa
open Go.RowKit
theorem Gf.more {w W : World} (h : Below w.heap.size w W) (o : Obj) : Below w.heap.size w (W.alloc o) := h.alloc h.size o
set_option maxHeartbeats 4000000 in
set_option maxRecDepth 100000 in
theorem back_big1 (t h l z : Int) (d s : ByteArray) (w : World) (bw : Below w.heap.size w (w.alloc (.cells #[.int .i64 t, .int .i64 h, .int .i64 l, .int .i64 z, .string d] 23))) (kw : Rg.Bk w.heap.size [.int .i64 t, .int .i64 h, .int .i64 l, .int .i64 z, .string d] 23 (w.alloc (.cells #[.int .i64 t, .int .i64 h, .int .i64 l, .int .i64 z, .string d] 23))) (HA : Hid (∀ W, Below w.heap.size w W → Rg.Bk w.heap.size [.int .i64 t, .int .i64 h, .int .i64 l, .int .i64 z, .string d] 23 W → Calls Try.prog 9 #[] W fun e w' => e = .returned (.bool true) ∧ Below w.heap.size w w' ∧ Rg.Bk w.heap.size [.int .i64 t, .int .i64 h, .int .i64 l, .int .i64 z, .string d] 23 w'))
    (q1 : decide ((5000 : Int) < (d.size : Int)) = true) :
    Calls Try.prog 6 #[.agg #[.int .i64 t, .int .i64 h, .int .i64 l, .int .i64 z, .string d], .string s] w fun e w' => e = .returned (.bool true) ∧ Below w.heap.size w w' := by
  go_enter Try.func6, Try.ntmps6
  go_wp2_with (first
    | (go_at_call 9; (first | with_reducible refine (HA.out _ (by first | assumption | exact Gf.more (by assumption) _) (by first | assumption | exact Rg.Bk.old (by assumption) _)).mono ?_); rintro e w' ⟨rfl, b', k'⟩; have c' := k'.cell; have z' := k'.lt))
  all_goals
    go_ret
    exact ⟨rfl, by first | assumption | exact Gf.more (by assumption) _⟩
set_option maxHeartbeats 4000000 in
set_option maxRecDepth 100000 in
theorem back_big2 (t h l z : Int) (d s : ByteArray) (w : World) (bw : Below w.heap.size w (w.alloc (.cells #[.int .i64 t, .int .i64 h, .int .i64 l, .int .i64 z, .string d] 23))) (kw : Rg.Bk w.heap.size [.int .i64 t, .int .i64 h, .int .i64 l, .int .i64 z, .string d] 23 (w.alloc (.cells #[.int .i64 t, .int .i64 h, .int .i64 l, .int .i64 z, .string d] 23))) (HA : Hid (∀ W, Below w.heap.size w W → Rg.Bk w.heap.size [.int .i64 t, .int .i64 h, .int .i64 l, .int .i64 z, .string d] 23 W → Calls Try.prog 9 #[] W fun e w' => e = .returned (.bool true) ∧ Below w.heap.size w w' ∧ Rg.Bk w.heap.size [.int .i64 t, .int .i64 h, .int .i64 l, .int .i64 z, .string d] 23 w'))
    (q1 : decide ((5000 : Int) < (d.size : Int)) = false) (q2 : decide ((9000 : Int) < (s.size : Int)) = true) :
    Calls Try.prog 6 #[.agg #[.int .i64 t, .int .i64 h, .int .i64 l, .int .i64 z, .string d], .string s] w fun e w' => e = .returned (.bool true) ∧ Below w.heap.size w w' := by
  go_enter Try.func6, Try.ntmps6
  go_wp2_with (first
    | (go_at_call 9; (first | with_reducible refine (HA.out _ (by first | assumption | exact Gf.more (by assumption) _) (by first | assumption | exact Rg.Bk.old (by assumption) _)).mono ?_); rintro e w' ⟨rfl, b', k'⟩; have c' := k'.cell; have z' := k'.lt))
  all_goals
    go_ret
    exact ⟨rfl, by first | assumption | exact Gf.more (by assumption) _⟩
set_option maxHeartbeats 4000000 in
set_option maxRecDepth 100000 in
theorem back_11 (t h l z : Int) (d s : ByteArray) (w : World) (bw : Below w.heap.size w (w.alloc (.cells #[.int .i64 t, .int .i64 h, .int .i64 l, .int .i64 z, .string d] 23))) (kw : Rg.Bk w.heap.size [.int .i64 t, .int .i64 h, .int .i64 l, .int .i64 z, .string d] 23 (w.alloc (.cells #[.int .i64 t, .int .i64 h, .int .i64 l, .int .i64 z, .string d] 23))) (HA : Hid (∀ W, Below w.heap.size w W → Rg.Bk w.heap.size [.int .i64 t, .int .i64 h, .int .i64 l, .int .i64 z, .string d] 23 W → Calls Try.prog 9 #[] W fun e w' => e = .returned (.bool true) ∧ Below w.heap.size w w' ∧ Rg.Bk w.heap.size [.int .i64 t, .int .i64 h, .int .i64 l, .int .i64 z, .string d] 23 w'))
    (q1 : decide ((5000 : Int) < (d.size : Int)) = false) (q2 : decide ((9000 : Int) < (s.size : Int)) = false) (X : ByteArray) (hX : X.size ≤ 5000) (hm2 : s.size ≤ 9000) (t2 h2 l2 z2 : Int) (d2 Y : ByteArray) (N : Nat) (n1 : decide ((N : Int) < 6) = false) (n3 : (Y.toList == (s.extract 0 N).toList) = true) (n4 : N ≤ s.size) (n5 : (N : Int) ≤ (s.size : Int))
    (HW : Hid (∀ W, Below w.heap.size w W → Rg.Bk w.heap.size [.int .i64 t, .int .i64 h, .int .i64 l, .int .i64 z, .string d] 23 W → Calls Try.prog 10 #[.agg #[.int .i64 t, .int .i64 h, .int .i64 l, .int .i64 z, .string d]] W fun e w' => e = .returned (.tuple #[.string X, .int .i64 0]) ∧ Below w.heap.size w w' ∧ Rg.Bk w.heap.size [.int .i64 t, .int .i64 h, .int .i64 l, .int .i64 z, .string d] 23 w'))
    (HR : Hid (∀ W, Below w.heap.size w W → Rg.Bk w.heap.size [.int .i64 t, .int .i64 h, .int .i64 l, .int .i64 z, .string d] 23 W → Calls Try.prog 14 #[.string (X ++ s)] W fun e w' => e = .returned (.tuple #[.agg #[.int .i64 t, .int .i64 h, .int .i64 l, .int .i64 z, .string d], .int .i64 X.size, .int .i64 0]) ∧ Below w.heap.size w w' ∧ Rg.Bk w.heap.size [.int .i64 t, .int .i64 h, .int .i64 l, .int .i64 z, .string d] 23 w'))
    (HS : Hid (∀ W, Below w.heap.size w W → Rg.Bk w.heap.size [.int .i64 t, .int .i64 h, .int .i64 l, .int .i64 z, .string d] 23 W → Calls Try.prog 14 #[.string s] W fun e w' => e = .returned (.tuple #[.agg #[.int .i64 t2, .int .i64 h2, .int .i64 l2, .int .i64 z2, .string d2], .int .i64 N, .int .i64 0]) ∧ Below w.heap.size w w' ∧ Rg.Bk w.heap.size [.int .i64 t, .int .i64 h, .int .i64 l, .int .i64 z, .string d] 23 w'))
    (HV : Hid (∀ W, Below w.heap.size w W → Rg.Bk w.heap.size [.int .i64 t, .int .i64 h, .int .i64 l, .int .i64 z, .string d] 23 W → Calls Try.prog 10 #[.agg #[.int .i64 t2, .int .i64 h2, .int .i64 l2, .int .i64 z2, .string d2]] W fun e w' => e = .returned (.tuple #[.string Y, .int .i64 0]) ∧ Below w.heap.size w w' ∧ Rg.Bk w.heap.size [.int .i64 t, .int .i64 h, .int .i64 l, .int .i64 z, .string d] 23 w')) :
    Calls Try.prog 6 #[.agg #[.int .i64 t, .int .i64 h, .int .i64 l, .int .i64 z, .string d], .string s] w fun e w' => e = .returned (.bool true) ∧ Below w.heap.size w w' := by
  go_enter Try.func6, Try.ntmps6
  go_wp2_with (first
    | (go_at_call 9; (first | with_reducible refine (HA.out _ (by first | assumption | exact Gf.more (by assumption) _) (by first | assumption | exact Rg.Bk.old (by assumption) _)).mono ?_); rintro e w' ⟨rfl, b', k'⟩; have c' := k'.cell; have z' := k'.lt)
    | (go_at_call 10; (first | with_reducible refine (HW.out _ (by first | assumption | exact Gf.more (by assumption) _) (by first | assumption | exact Rg.Bk.old (by assumption) _)).mono ?_ | with_reducible refine (HV.out _ (by first | assumption | exact Gf.more (by assumption) _) (by first | assumption | exact Rg.Bk.old (by assumption) _)).mono ?_); rintro e w' ⟨rfl, b', k'⟩; have c' := k'.cell; have z' := k'.lt)
    | (go_at_call 14; (first | with_reducible refine (HS.out _ (by first | assumption | exact Gf.more (by assumption) _) (by first | assumption | exact Rg.Bk.old (by assumption) _)).mono ?_ | with_reducible refine (HR.out _ (by first | assumption | exact Gf.more (by assumption) _) (by first | assumption | exact Rg.Bk.old (by assumption) _)).mono ?_); rintro e w' ⟨rfl, b', k'⟩; have c' := k'.cell; have z' := k'.lt))
  all_goals
    go_ret
    exact ⟨rfl, by first | assumption | exact Gf.more (by assumption) _⟩
set_option maxHeartbeats 4000000 in
set_option maxRecDepth 100000 in
theorem back_10 (t h l z : Int) (d s : ByteArray) (w : World) (bw : Below w.heap.size w (w.alloc (.cells #[.int .i64 t, .int .i64 h, .int .i64 l, .int .i64 z, .string d] 23))) (kw : Rg.Bk w.heap.size [.int .i64 t, .int .i64 h, .int .i64 l, .int .i64 z, .string d] 23 (w.alloc (.cells #[.int .i64 t, .int .i64 h, .int .i64 l, .int .i64 z, .string d] 23))) (HA : Hid (∀ W, Below w.heap.size w W → Rg.Bk w.heap.size [.int .i64 t, .int .i64 h, .int .i64 l, .int .i64 z, .string d] 23 W → Calls Try.prog 9 #[] W fun e w' => e = .returned (.bool true) ∧ Below w.heap.size w w' ∧ Rg.Bk w.heap.size [.int .i64 t, .int .i64 h, .int .i64 l, .int .i64 z, .string d] 23 w'))
    (q1 : decide ((5000 : Int) < (d.size : Int)) = false) (q2 : decide ((9000 : Int) < (s.size : Int)) = false) (X : ByteArray) (hX : X.size ≤ 5000) (hm2 : s.size ≤ 9000) (E : Nat) (hE : ((E : Int) == 0) = false)
    (HW : Hid (∀ W, Below w.heap.size w W → Rg.Bk w.heap.size [.int .i64 t, .int .i64 h, .int .i64 l, .int .i64 z, .string d] 23 W → Calls Try.prog 10 #[.agg #[.int .i64 t, .int .i64 h, .int .i64 l, .int .i64 z, .string d]] W fun e w' => e = .returned (.tuple #[.string X, .int .i64 0]) ∧ Below w.heap.size w w' ∧ Rg.Bk w.heap.size [.int .i64 t, .int .i64 h, .int .i64 l, .int .i64 z, .string d] 23 w'))
    (HR : Hid (∀ W, Below w.heap.size w W → Rg.Bk w.heap.size [.int .i64 t, .int .i64 h, .int .i64 l, .int .i64 z, .string d] 23 W → Calls Try.prog 14 #[.string (X ++ s)] W fun e w' => e = .returned (.tuple #[.agg #[.int .i64 t, .int .i64 h, .int .i64 l, .int .i64 z, .string d], .int .i64 X.size, .int .i64 0]) ∧ Below w.heap.size w w' ∧ Rg.Bk w.heap.size [.int .i64 t, .int .i64 h, .int .i64 l, .int .i64 z, .string d] 23 w'))
    (HS : Hid (∀ W, Below w.heap.size w W → Rg.Bk w.heap.size [.int .i64 t, .int .i64 h, .int .i64 l, .int .i64 z, .string d] 23 W → Calls Try.prog 14 #[.string s] W fun e w' => e = .returned (.tuple #[.agg #[.int .i64 0, .int .i64 0, .int .i64 0, .int .i64 0, .string ⟨#[]⟩], .int .i64 0, .int .i64 E]) ∧ Below w.heap.size w w' ∧ Rg.Bk w.heap.size [.int .i64 t, .int .i64 h, .int .i64 l, .int .i64 z, .string d] 23 w')) :
    Calls Try.prog 6 #[.agg #[.int .i64 t, .int .i64 h, .int .i64 l, .int .i64 z, .string d], .string s] w fun e w' => e = .returned (.bool true) ∧ Below w.heap.size w w' := by
  go_enter Try.func6, Try.ntmps6
  go_wp2_with (first
    | (go_at_call 9; (first | with_reducible refine (HA.out _ (by first | assumption | exact Gf.more (by assumption) _) (by first | assumption | exact Rg.Bk.old (by assumption) _)).mono ?_); rintro e w' ⟨rfl, b', k'⟩; have c' := k'.cell; have z' := k'.lt)
    | (go_at_call 10; (first | with_reducible refine (HW.out _ (by first | assumption | exact Gf.more (by assumption) _) (by first | assumption | exact Rg.Bk.old (by assumption) _)).mono ?_); rintro e w' ⟨rfl, b', k'⟩; have c' := k'.cell; have z' := k'.lt)
    | (go_at_call 14; (first | with_reducible refine (HS.out _ (by first | assumption | exact Gf.more (by assumption) _) (by first | assumption | exact Rg.Bk.old (by assumption) _)).mono ?_ | with_reducible refine (HR.out _ (by first | assumption | exact Gf.more (by assumption) _) (by first | assumption | exact Rg.Bk.old (by assumption) _)).mono ?_); rintro e w' ⟨rfl, b', k'⟩; have c' := k'.cell; have z' := k'.lt))
  all_goals
    go_ret
    exact ⟨rfl, by first | assumption | exact Gf.more (by assumption) _⟩
set_option maxHeartbeats 4000000 in
set_option maxRecDepth 100000 in
theorem back_01 (t h l z : Int) (d s : ByteArray) (w : World) (bw : Below w.heap.size w (w.alloc (.cells #[.int .i64 t, .int .i64 h, .int .i64 l, .int .i64 z, .string d] 23))) (kw : Rg.Bk w.heap.size [.int .i64 t, .int .i64 h, .int .i64 l, .int .i64 z, .string d] 23 (w.alloc (.cells #[.int .i64 t, .int .i64 h, .int .i64 l, .int .i64 z, .string d] 23))) (HA : Hid (∀ W, Below w.heap.size w W → Rg.Bk w.heap.size [.int .i64 t, .int .i64 h, .int .i64 l, .int .i64 z, .string d] 23 W → Calls Try.prog 9 #[] W fun e w' => e = .returned (.bool true) ∧ Below w.heap.size w w' ∧ Rg.Bk w.heap.size [.int .i64 t, .int .i64 h, .int .i64 l, .int .i64 z, .string d] 23 w'))
    (q1 : decide ((5000 : Int) < (d.size : Int)) = false) (q2 : decide ((9000 : Int) < (s.size : Int)) = false) (t2 h2 l2 z2 : Int) (d2 Y : ByteArray) (N : Nat) (n1 : decide ((N : Int) < 6) = false) (n3 : (Y.toList == (s.extract 0 N).toList) = true) (n4 : N ≤ s.size) (n5 : (N : Int) ≤ (s.size : Int))
    (HW : Hid (∀ W, Below w.heap.size w W → Rg.Bk w.heap.size [.int .i64 t, .int .i64 h, .int .i64 l, .int .i64 z, .string d] 23 W → Calls Try.prog 10 #[.agg #[.int .i64 t, .int .i64 h, .int .i64 l, .int .i64 z, .string d]] W fun e w' => e = .returned (.tuple #[.string ⟨#[]⟩, .int .i64 1]) ∧ Below w.heap.size w w' ∧ Rg.Bk w.heap.size [.int .i64 t, .int .i64 h, .int .i64 l, .int .i64 z, .string d] 23 w'))
    (HS : Hid (∀ W, Below w.heap.size w W → Rg.Bk w.heap.size [.int .i64 t, .int .i64 h, .int .i64 l, .int .i64 z, .string d] 23 W → Calls Try.prog 14 #[.string s] W fun e w' => e = .returned (.tuple #[.agg #[.int .i64 t2, .int .i64 h2, .int .i64 l2, .int .i64 z2, .string d2], .int .i64 N, .int .i64 0]) ∧ Below w.heap.size w w' ∧ Rg.Bk w.heap.size [.int .i64 t, .int .i64 h, .int .i64 l, .int .i64 z, .string d] 23 w'))
    (HV : Hid (∀ W, Below w.heap.size w W → Rg.Bk w.heap.size [.int .i64 t, .int .i64 h, .int .i64 l, .int .i64 z, .string d] 23 W → Calls Try.prog 10 #[.agg #[.int .i64 t2, .int .i64 h2, .int .i64 l2, .int .i64 z2, .string d2]] W fun e w' => e = .returned (.tuple #[.string Y, .int .i64 0]) ∧ Below w.heap.size w w' ∧ Rg.Bk w.heap.size [.int .i64 t, .int .i64 h, .int .i64 l, .int .i64 z, .string d] 23 w')) :
    Calls Try.prog 6 #[.agg #[.int .i64 t, .int .i64 h, .int .i64 l, .int .i64 z, .string d], .string s] w fun e w' => e = .returned (.bool true) ∧ Below w.heap.size w w' := by
  go_enter Try.func6, Try.ntmps6
  go_wp2_with (first
    | (go_at_call 9; (first | with_reducible refine (HA.out _ (by first | assumption | exact Gf.more (by assumption) _) (by first | assumption | exact Rg.Bk.old (by assumption) _)).mono ?_); rintro e w' ⟨rfl, b', k'⟩; have c' := k'.cell; have z' := k'.lt)
    | (go_at_call 10; (first | with_reducible refine (HW.out _ (by first | assumption | exact Gf.more (by assumption) _) (by first | assumption | exact Rg.Bk.old (by assumption) _)).mono ?_ | with_reducible refine (HV.out _ (by first | assumption | exact Gf.more (by assumption) _) (by first | assumption | exact Rg.Bk.old (by assumption) _)).mono ?_); rintro e w' ⟨rfl, b', k'⟩; have c' := k'.cell; have z' := k'.lt)
    | (go_at_call 14; (first | with_reducible refine (HS.out _ (by first | assumption | exact Gf.more (by assumption) _) (by first | assumption | exact Rg.Bk.old (by assumption) _)).mono ?_); rintro e w' ⟨rfl, b', k'⟩; have c' := k'.cell; have z' := k'.lt))
  all_goals
    go_ret
    exact ⟨rfl, by first | assumption | exact Gf.more (by assumption) _⟩
set_option maxHeartbeats 4000000 in
set_option maxRecDepth 100000 in
theorem back_00 (t h l z : Int) (d s : ByteArray) (w : World) (bw : Below w.heap.size w (w.alloc (.cells #[.int .i64 t, .int .i64 h, .int .i64 l, .int .i64 z, .string d] 23))) (kw : Rg.Bk w.heap.size [.int .i64 t, .int .i64 h, .int .i64 l, .int .i64 z, .string d] 23 (w.alloc (.cells #[.int .i64 t, .int .i64 h, .int .i64 l, .int .i64 z, .string d] 23))) (HA : Hid (∀ W, Below w.heap.size w W → Rg.Bk w.heap.size [.int .i64 t, .int .i64 h, .int .i64 l, .int .i64 z, .string d] 23 W → Calls Try.prog 9 #[] W fun e w' => e = .returned (.bool true) ∧ Below w.heap.size w w' ∧ Rg.Bk w.heap.size [.int .i64 t, .int .i64 h, .int .i64 l, .int .i64 z, .string d] 23 w'))
    (q1 : decide ((5000 : Int) < (d.size : Int)) = false) (q2 : decide ((9000 : Int) < (s.size : Int)) = false) (E : Nat) (hE : ((E : Int) == 0) = false)
    (HW : Hid (∀ W, Below w.heap.size w W → Rg.Bk w.heap.size [.int .i64 t, .int .i64 h, .int .i64 l, .int .i64 z, .string d] 23 W → Calls Try.prog 10 #[.agg #[.int .i64 t, .int .i64 h, .int .i64 l, .int .i64 z, .string d]] W fun e w' => e = .returned (.tuple #[.string ⟨#[]⟩, .int .i64 1]) ∧ Below w.heap.size w w' ∧ Rg.Bk w.heap.size [.int .i64 t, .int .i64 h, .int .i64 l, .int .i64 z, .string d] 23 w'))
    (HS : Hid (∀ W, Below w.heap.size w W → Rg.Bk w.heap.size [.int .i64 t, .int .i64 h, .int .i64 l, .int .i64 z, .string d] 23 W → Calls Try.prog 14 #[.string s] W fun e w' => e = .returned (.tuple #[.agg #[.int .i64 0, .int .i64 0, .int .i64 0, .int .i64 0, .string ⟨#[]⟩], .int .i64 0, .int .i64 E]) ∧ Below w.heap.size w w' ∧ Rg.Bk w.heap.size [.int .i64 t, .int .i64 h, .int .i64 l, .int .i64 z, .string d] 23 w')) :
    Calls Try.prog 6 #[.agg #[.int .i64 t, .int .i64 h, .int .i64 l, .int .i64 z, .string d], .string s] w fun e w' => e = .returned (.bool true) ∧ Below w.heap.size w w' := by
  go_enter Try.func6, Try.ntmps6
  go_wp2_with (first
    | (go_at_call 9; (first | with_reducible refine (HA.out _ (by first | assumption | exact Gf.more (by assumption) _) (by first | assumption | exact Rg.Bk.old (by assumption) _)).mono ?_); rintro e w' ⟨rfl, b', k'⟩; have c' := k'.cell; have z' := k'.lt)
    | (go_at_call 10; (first | with_reducible refine (HW.out _ (by first | assumption | exact Gf.more (by assumption) _) (by first | assumption | exact Rg.Bk.old (by assumption) _)).mono ?_); rintro e w' ⟨rfl, b', k'⟩; have c' := k'.cell; have z' := k'.lt)
    | (go_at_call 14; (first | with_reducible refine (HS.out _ (by first | assumption | exact Gf.more (by assumption) _) (by first | assumption | exact Rg.Bk.old (by assumption) _)).mono ?_); rintro e w' ⟨rfl, b', k'⟩; have c' := k'.cell; have z' := k'.lt))
  all_goals
    go_ret
    exact ⟨rfl, by first | assumption | exact Gf.more (by assumption) _⟩
end Go.Proofs.Ytpgjdobgfhhbiaa
