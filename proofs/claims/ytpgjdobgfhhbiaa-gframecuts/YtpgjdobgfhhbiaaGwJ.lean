/-
  Walks of the laws of layer 11: GframeCuts.
-/
import Derived.Test.YtpgjdobgfhhbiaaGwI
namespace Go.Proofs.Ytpgjdobgfhhbiaa
open Go.RowKit
set_option maxHeartbeats 4000000 in
set_option maxRecDepth 100000 in
theorem cuts_big (t h l z a : Int) (d : ByteArray) (w : World) (bw : Below w.heap.size w (w.alloc (.cells #[.int .i64 t, .int .i64 h, .int .i64 l, .int .i64 z, .string d] 23))) (kw : Rg.Bk w.heap.size [.int .i64 t, .int .i64 h, .int .i64 l, .int .i64 z, .string d] 23 (w.alloc (.cells #[.int .i64 t, .int .i64 h, .int .i64 l, .int .i64 z, .string d] 23))) (HA : Hid (∀ W, Below w.heap.size w W → Rg.Bk w.heap.size [.int .i64 t, .int .i64 h, .int .i64 l, .int .i64 z, .string d] 23 W → Calls Try.prog 9 #[] W fun e w' => e = .returned (.bool true) ∧ Below w.heap.size w w' ∧ Rg.Bk w.heap.size [.int .i64 t, .int .i64 h, .int .i64 l, .int .i64 z, .string d] 23 w'))
    (q1 : decide ((5000 : Int) < (d.size : Int)) = true) (X : ByteArray) (E : Int)
    (HW : Hid (∀ W, Below w.heap.size w W → Rg.Bk w.heap.size [.int .i64 t, .int .i64 h, .int .i64 l, .int .i64 z, .string d] 23 W → Calls Try.prog 10 #[.agg #[.int .i64 t, .int .i64 h, .int .i64 l, .int .i64 z, .string d]] W fun e w' => e = .returned (.tuple #[.string X, .int .i64 E]) ∧ Below w.heap.size w w' ∧ Rg.Bk w.heap.size [.int .i64 t, .int .i64 h, .int .i64 l, .int .i64 z, .string d] 23 w')) :
    Calls Try.prog 7 #[.agg #[.int .i64 t, .int .i64 h, .int .i64 l, .int .i64 z, .string d], .int .i64 a] w fun e w' => e = .returned (.bool true) ∧ Below w.heap.size w w' := by
  go_enter Try.func7, Try.ntmps7
  go_wp2_with (first
    | (go_at_call 9; (first | with_reducible refine (HA.out _ (by first | assumption | exact Gf.more (by assumption) _) (by first | assumption | exact Rg.Bk.old (by assumption) _)).mono ?_); rintro e w' ⟨rfl, b', k'⟩; have c' := k'.cell; have z' := k'.lt)
    | (go_at_call 10; (first | with_reducible refine (HW.out _ (by first | assumption | exact Gf.more (by assumption) _) (by first | assumption | exact Rg.Bk.old (by assumption) _)).mono ?_); rintro e w' ⟨rfl, b', k'⟩; have c' := k'.cell; have z' := k'.lt))
  all_goals
    go_ret
    exact ⟨rfl, by first | assumption | exact Gf.more (by assumption) _⟩
set_option maxHeartbeats 4000000 in
set_option maxRecDepth 100000 in
theorem cuts_no (t h l z a : Int) (d : ByteArray) (w : World) (bw : Below w.heap.size w (w.alloc (.cells #[.int .i64 t, .int .i64 h, .int .i64 l, .int .i64 z, .string d] 23))) (kw : Rg.Bk w.heap.size [.int .i64 t, .int .i64 h, .int .i64 l, .int .i64 z, .string d] 23 (w.alloc (.cells #[.int .i64 t, .int .i64 h, .int .i64 l, .int .i64 z, .string d] 23))) (HA : Hid (∀ W, Below w.heap.size w W → Rg.Bk w.heap.size [.int .i64 t, .int .i64 h, .int .i64 l, .int .i64 z, .string d] 23 W → Calls Try.prog 9 #[] W fun e w' => e = .returned (.bool true) ∧ Below w.heap.size w w' ∧ Rg.Bk w.heap.size [.int .i64 t, .int .i64 h, .int .i64 l, .int .i64 z, .string d] 23 w'))
    (q1 : decide ((5000 : Int) < (d.size : Int)) = false)
    (HW : Hid (∀ W, Below w.heap.size w W → Rg.Bk w.heap.size [.int .i64 t, .int .i64 h, .int .i64 l, .int .i64 z, .string d] 23 W → Calls Try.prog 10 #[.agg #[.int .i64 t, .int .i64 h, .int .i64 l, .int .i64 z, .string d]] W fun e w' => e = .returned (.tuple #[.string ⟨#[]⟩, .int .i64 1]) ∧ Below w.heap.size w w' ∧ Rg.Bk w.heap.size [.int .i64 t, .int .i64 h, .int .i64 l, .int .i64 z, .string d] 23 w')) :
    Calls Try.prog 7 #[.agg #[.int .i64 t, .int .i64 h, .int .i64 l, .int .i64 z, .string d], .int .i64 a] w fun e w' => e = .returned (.bool true) ∧ Below w.heap.size w w' := by
  go_enter Try.func7, Try.ntmps7
  go_wp2_with (first
    | (go_at_call 9; (first | with_reducible refine (HA.out _ (by first | assumption | exact Gf.more (by assumption) _) (by first | assumption | exact Rg.Bk.old (by assumption) _)).mono ?_); rintro e w' ⟨rfl, b', k'⟩; have c' := k'.cell; have z' := k'.lt)
    | (go_at_call 10; (first | with_reducible refine (HW.out _ (by first | assumption | exact Gf.more (by assumption) _) (by first | assumption | exact Rg.Bk.old (by assumption) _)).mono ?_); rintro e w' ⟨rfl, b', k'⟩; have c' := k'.cell; have z' := k'.lt))
  all_goals
    go_ret
    exact ⟨rfl, by first | assumption | exact Gf.more (by assumption) _⟩
set_option maxHeartbeats 4000000 in
set_option maxRecDepth 100000 in
theorem cuts_yes (t h l z a : Int) (d : ByteArray) (w : World) (bw : Below w.heap.size w (w.alloc (.cells #[.int .i64 t, .int .i64 h, .int .i64 l, .int .i64 z, .string d] 23))) (kw : Rg.Bk w.heap.size [.int .i64 t, .int .i64 h, .int .i64 l, .int .i64 z, .string d] 23 (w.alloc (.cells #[.int .i64 t, .int .i64 h, .int .i64 l, .int .i64 z, .string d] 23))) (HA : Hid (∀ W, Below w.heap.size w W → Rg.Bk w.heap.size [.int .i64 t, .int .i64 h, .int .i64 l, .int .i64 z, .string d] 23 W → Calls Try.prog 9 #[] W fun e w' => e = .returned (.bool true) ∧ Below w.heap.size w w' ∧ Rg.Bk w.heap.size [.int .i64 t, .int .i64 h, .int .i64 l, .int .i64 z, .string d] 23 w'))
    (q1 : decide ((5000 : Int) < (d.size : Int)) = false) (X : ByteArray) (U K : Nat) (u1 : IntKind.u64.wrap a = (U : Int)) (u2 : IntKind.u64.wrap (X.size : Int) = (X.size : Int)) (u3 : (U : Int) % (X.size : Int) = (K : Int)) (u3' : (U : Int).tmod (X.size : Int) = (K : Int)) (u4 : K ≤ X.size) (u5 : (K : Int) ≤ (X.size : Int)) (u6 : X.size ≤ 5000) (u8 : ¬ X.size = 0)
    (HW : Hid (∀ W, Below w.heap.size w W → Rg.Bk w.heap.size [.int .i64 t, .int .i64 h, .int .i64 l, .int .i64 z, .string d] 23 W → Calls Try.prog 10 #[.agg #[.int .i64 t, .int .i64 h, .int .i64 l, .int .i64 z, .string d]] W fun e w' => e = .returned (.tuple #[.string X, .int .i64 0]) ∧ Below w.heap.size w w' ∧ Rg.Bk w.heap.size [.int .i64 t, .int .i64 h, .int .i64 l, .int .i64 z, .string d] 23 w'))
    (HR : Hid (∀ W, Below w.heap.size w W → Rg.Bk w.heap.size [.int .i64 t, .int .i64 h, .int .i64 l, .int .i64 z, .string d] 23 W → Calls Try.prog 14 #[.string (X.extract 0 K)] W fun e w' => e = .returned (.tuple #[.agg #[.int .i64 0, .int .i64 0, .int .i64 0, .int .i64 0, .string ⟨#[]⟩], .int .i64 0, .int .i64 2]) ∧ Below w.heap.size w w' ∧ Rg.Bk w.heap.size [.int .i64 t, .int .i64 h, .int .i64 l, .int .i64 z, .string d] 23 w')) :
    Calls Try.prog 7 #[.agg #[.int .i64 t, .int .i64 h, .int .i64 l, .int .i64 z, .string d], .int .i64 a] w fun e w' => e = .returned (.bool true) ∧ Below w.heap.size w w' := by
  go_enter Try.func7, Try.ntmps7
  go_wp2_with (first
    | (go_at_call 9; (first | with_reducible refine (HA.out _ (by first | assumption | exact Gf.more (by assumption) _) (by first | assumption | exact Rg.Bk.old (by assumption) _)).mono ?_); rintro e w' ⟨rfl, b', k'⟩; have c' := k'.cell; have z' := k'.lt)
    | (go_at_call 10; (first | with_reducible refine (HW.out _ (by first | assumption | exact Gf.more (by assumption) _) (by first | assumption | exact Rg.Bk.old (by assumption) _)).mono ?_); rintro e w' ⟨rfl, b', k'⟩; have c' := k'.cell; have z' := k'.lt)
    | (go_at_call 14; (first | with_reducible refine (HR.out _ (by first | assumption | exact Gf.more (by assumption) _) (by first | assumption | exact Rg.Bk.old (by assumption) _)).mono ?_); rintro e w' ⟨rfl, b', k'⟩; have c' := k'.cell; have z' := k'.lt))
  all_goals
    go_ret
    exact ⟨rfl, by first | assumption | exact Gf.more (by assumption) _⟩
end Go.Proofs.Ytpgjdobgfhhbiaa
