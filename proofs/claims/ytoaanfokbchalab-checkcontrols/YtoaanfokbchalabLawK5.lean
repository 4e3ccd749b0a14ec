/-
  Walk of layer 2's statement CheckControls.
-/
import Derived.Test.YtoaanfokbchalabLawK1
namespace Go.Proofs.Ytoaanfokbchalab
open Go.RowKit

set_option maxRecDepth 100000 in
set_option maxHeartbeats 1000000 in
theorem controls_walk (s : ByteArray) (hs : s.size ≤ maxLen) (a : Int) (_h0 : -9223372036854775808 ≤ a) (_h1 : a ≤ 9223372036854775807) (b : Int) (_h2 : -9223372036854775808 ≤ b) (_h3 : b ≤ 9223372036854775807) (w : World) :
    Calls Try.prog 3 #[.string s, .int .i64 a, .int .i64 b] w fun e w' => e = .returned (.bool true) ∧ Below w.heap.size w w' := by
  have HL := fun L hL => long_one s w L hL
  by_cases hb : 5000 < s.size
  · have HL1 : Hid (Calls Try.prog 4 #[.slice (some ⟨w.heap.size, 0, none⟩) 1 1] (w.alloc (.cells #[.string s] 9)) fun e w' => e = .returned (.bool true) ∧ Below w.heap.size w w') := HL true (decide_eq_true hb)
    clear HL hb
    go_enter Try.func3, Try.ntmps3
    go_wp2_with (go_at_call 4; refine HL1.out.mono ?_)
    rintro e w1 ⟨rfl, b1⟩
    go_wp2_with (go_at_call 5; refine (awake_any _).mono ?_; rintro e w3 ⟨rfl, rfl⟩)
    go_ret
    exact ⟨rfl, b1⟩
  have HL1 : Hid (Calls Try.prog 4 #[.slice (some ⟨w.heap.size, 0, none⟩) 1 1] (w.alloc (.cells #[.string s] 9)) fun e w' => e = .returned (.bool false) ∧ Below w.heap.size w w') := HL false (decide_eq_false hb)
  clear HL hb
  have ha := Bit.and_i64_255 a
  have hb := Bit.and_i64_255 b
  have H1 : Hid (∀ w : World, Calls Try.prog 6 #[.int .i64 a] w fun e w' => e = .returned (.int .i64 (Chk.control a)) ∧ w' = w) := fun w => control_any a w
  have H2 : Hid (∀ w : World, Calls Try.prog 6 #[.int .i64 b] w fun e w' => e = .returned (.int .i64 (Chk.control b)) ∧ w' = w) := fun w => control_any b w
  have H3 : Hid (∀ w : World, Calls Try.prog 7 #[.string s, .int .i64 a] w fun e w' => e = .returned (.int .i64 (Chk.packet s.data.toList a)) ∧ w' = w) := fun w => packet_any s a w hs
  have H4 : Hid (∀ w : World, Calls Try.prog 7 #[.string s, .int .i64 b] w fun e w' => e = .returned (.int .i64 (Chk.packet s.data.toList b)) ∧ w' = w) := fun w => packet_any s b w hs
  have f1 : ((Chk.control a == Chk.control b) == (a % 256 == b % 256)) = true := by rw [Chk.control_inj]; exact beq_self_eq_true _
  have f2 : ((Chk.packet s.data.toList a == Chk.packet s.data.toList b) == (a % 256 == b % 256)) = true := by rw [Chk.packet_inj]; exact beq_self_eq_true _
  generalize Chk.control a = ca at *
  generalize Chk.control b = cb at *
  generalize Chk.packet s.data.toList a = pa at *
  generalize Chk.packet s.data.toList b = pb at *
  generalize a % 256 = xa at *
  generalize b % 256 = xb at *
  go_enter Try.func3, Try.ntmps3
  go_wp2_with (go_at_call 4; refine HL1.out.mono ?_)
  rintro e w1 ⟨rfl, b1⟩
  go_wp2_with (go_at_call 6; refine (H1.out _).mono ?_)
  rintro e w2 ⟨rfl, rfl⟩
  go_wp2_with (go_at_call 6; refine (H2.out _).mono ?_)
  rintro e w2 ⟨rfl, rfl⟩
  go_wp2_with (go_at_call 7; refine (H3.out _).mono ?_)
  rintro e w2 ⟨rfl, rfl⟩
  go_wp2_with (go_at_call 7; refine (H4.out _).mono ?_)
  rintro e w2 ⟨rfl, rfl⟩
  go_wp2_with (go_at_call 5; refine (awake_any _).mono ?_; rintro e w3 ⟨rfl, rfl⟩)
  go_ret
  exact ⟨rfl, b1⟩
end Go.Proofs.Ytoaanfokbchalab
