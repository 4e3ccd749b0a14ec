/-
  Walks of the laws of layer 11: GframeReads.
-/
import Derived.Test.YtpgjdobgfhhbiaaGwX
import Derived.Test.YtpgjdobgfhhbiaaGwG
namespace Go.Proofs.Ytpgjdobgfhhbiaa
open Go.RowKit
set_option maxHeartbeats 2000000 in
set_option maxRecDepth 100000 in
theorem reads_big (s : ByteArray) (w : World) (q1 : decide ((9000 : Int) < (s.size : Int)) = true) (HA : Hid (∀ W, Calls Try.prog 9 #[] W fun e w' => e = .returned (.bool true) ∧ Below W.heap.size W w')) :
    Calls Try.prog 4 #[.string s] w fun e w' => e = .returned (.bool true) ∧ Below w.heap.size w w' := by
  go_enter Try.func4, Try.ntmps4
  go_wp2_with (go_at_call 9; refine (HA.out _).mono ?_; rintro e w3 ⟨rfl, b3⟩)
  go_ret
  exact ⟨rfl, b3⟩
set_option maxHeartbeats 2000000 in
set_option maxRecDepth 100000 in
theorem reads_core (s : ByteArray) (w : World) (t h l z N E : Int) (D : ByteArray) (q1 : decide ((9000 : Int) < (s.size : Int)) = false)
    (HR : Hid (∀ W, Calls Try.prog 14 #[.string s] W fun e w' => e = .returned (.tuple #[.agg #[.int .i64 t, .int .i64 h, .int .i64 l, .int .i64 z, .string D], .int .i64 N, .int .i64 E]) ∧ Below W.heap.size W w'))
    (HV : Hid (∀ W, Calls Try.prog 15 #[.string s] W fun e w' => e = .returned (.tuple #[.agg #[.int .i64 t, .int .i64 h, .int .i64 l, .int .i64 z, .string D], .int .i64 N, .int .i64 E]) ∧ Below W.heap.size W w'))
    (HA : Hid (∀ W, Calls Try.prog 9 #[] W fun e w' => e = .returned (.bool true) ∧ Below W.heap.size W w')) :
    Calls Try.prog 4 #[.string s] w fun e w' => e = .returned (.bool true) ∧ Below w.heap.size w w' := by
  go_enter Try.func4, Try.ntmps4
  go_wp2_with (first
    | (go_at_call 14; refine (HR.out _).mono ?_; rintro e w1 ⟨rfl, b1⟩; have k1 : Rg.Bk w1.heap.size [.int .i64 t, .int .i64 h, .int .i64 l, .int .i64 z, .string D] 23 (w1.alloc (.cells #[.int .i64 t, .int .i64 h, .int .i64 l, .int .i64 z, .string D] 23)) := Rg.Bk.new rfl)
    | (go_at_call 15; refine (HV.out _).mono ?_; rintro e w2 ⟨rfl, b2⟩; have c2 := (k1.below b2 k1.lt).cell; have z2 := (k1.below b2 k1.lt).lt)
    | (go_at_call 9; refine (HA.out _).mono ?_; rintro e w3 ⟨rfl, b3⟩))
  go_ret
  have q1 := b1.alloc b1.size (.cells #[.int .i64 t, .int .i64 h, .int .i64 l, .int .i64 z, .string D] 23)
  have q2 := q1.trans (b2.mono q1.size)
  have q3 := q2.alloc q2.size (.cells #[.int .i64 t, .int .i64 h, .int .i64 l, .int .i64 z, .string D] 23)
  exact ⟨rfl, q3.trans (b3.mono q3.size)⟩
theorem reads_walk (s : ByteArray) (hs : s.size ≤ maxLen) (w : World) :
    Calls Try.prog 4 #[.string s] w fun e w' => e = .returned (.bool true) ∧ Below w.heap.size w w' := by
  by_cases q1 : 9000 < s.size
  · exact reads_big s w (by simp; omega) gawake_any
  have q1' : decide ((9000 : Int) < (s.size : Int)) = false := by simp; omega
  have HR := fun W => gread_any s hs W
  have HV := fun W => rgread_any s hs W
  cases hr : Gf.read s.data.toList with
  | ok fn =>
    obtain ⟨f, n⟩ := fn
    rw [hr] at HR HV
    exact reads_core s w f.ty f.hi f.lo f.sz n 0 ⟨f.data.toArray⟩ q1' HR HV gawake_any
  | error e =>
    rw [hr] at HR HV
    exact reads_core s w 0 0 0 0 0 e ⟨#[]⟩ q1' HR HV gawake_any
end Go.Proofs.Ytpgjdobgfhhbiaa
