/-
  Walk of one of layer 1's statements: OctetOrder.
-/
import Derived.Test.YtakgmpebgaiinabDoorAwk
import Derived.Test.YtakgmpebgaiinabDoorMathO
namespace Go.Proofs.YtakgmpebgaiinabDoor
open Go.RowKit

set_option maxHeartbeats 1000000 in
theorem order_walk (n : Int) (hn0 : -9223372036854775808 ≤ n) (hn1 : n ≤ 9223372036854775807) (m : Int) (hm0 : -9223372036854775808 ≤ m) (hm1 : m ≤ 9223372036854775807) (width : Int) (_hz0 : -9223372036854775808 ≤ width) (_hz1 : width ≤ 9223372036854775807)
    (w : World) (htab : Lib.TabIs Tryd.prog w "internal/strconv.uint64pow10" .u64 Lib.pow10Tab) :
    Calls Tryd.prog 3 #[.int .i64 n, .int .i64 m, .int .i64 width] w fun e w' => e = .returned (.bool true) ∧ Below w.heap.size w w' := by
  have HT : Hid (Lib.TabIs Tryd.prog w "internal/strconv.uint64pow10" .u64 Lib.pow10Tab) := htab
  clear htab
  have H1 := fun w => fixed_any n width w hn0 hn1
  have H2 := fun w => fixed_any m width w hm0 hm1
  have hof := Oct.order_facts (n := n) (m := m) (width := width)
  generalize Oct.fixed n width = A at *
  generalize Oct.fixed m width = B at *
  obtain ⟨a, e⟩ := A
  obtain ⟨b, f⟩ := B
  have H1' : Hid (∀ w : World, Calls Tryd.prog 4 #[.int .i64 n, .int .i64 width] w fun x w' => x = .returned (.tuple #[.string ⟨a.toArray⟩, .int .i64 (e : Int)]) ∧ Below w.heap.size w w') := H1
  have H2' : Hid (∀ w : World, Calls Tryd.prog 4 #[.int .i64 m, .int .i64 width] w fun x w' => x = .returned (.tuple #[.string ⟨b.toArray⟩, .int .i64 (f : Int)]) ∧ Below w.heap.size w w') := H2
  have hof' : Hid (e = 0 → f = 0 → Op.bytesLess a b = decide (n < m) ∧ (a == b) = (n == m) ∧ (a.length : Int) = width ∧ (b.length : Int) = width) := hof
  clear H1 H2 hof
  by_cases he : e = 0
  · by_cases hf : f = 0
    · subst he; subst hf
      have H1x : Hid (∀ w : World, Calls Tryd.prog 4 #[.int .i64 n, .int .i64 width] w fun x w' => x = .returned (.tuple #[.string ⟨a.toArray⟩, .int .i64 0]) ∧ Below w.heap.size w w') := H1'.out
      have H2x : Hid (∀ w : World, Calls Tryd.prog 4 #[.int .i64 m, .int .i64 width] w fun x w' => x = .returned (.tuple #[.string ⟨b.toArray⟩, .int .i64 0]) ∧ Below w.heap.size w w') := H2'.out
      obtain ⟨f1, f2, f3, f4⟩ := hof'.out rfl rfl
      clear H1' H2' hof'
      have hf1 : (Op.bytesLess a b == decide (n < m)) = true := by rw [f1]; simp
      have hf2 : ((a == b) == (n == m)) = true := by rw [f2]; simp
      have hf3 : ((a.length : Int) == width) = true := by rw [beq_iff_eq]; exact f3
      have hf4 : ((b.length : Int) == width) = true := by rw [beq_iff_eq]; exact f4
      clear f1 f2 f3 f4
      go_enter Tryd.func3, Tryd.ntmps3
      go_wp2_with (go_at_call 4; refine (H1x.out _).mono ?_)
      rintro x w1 ⟨rfl, b1⟩
      go_wp2_with (go_at_call 4; refine (H2x.out _).mono ?_)
      rintro x w2 ⟨rfl, b2⟩
      have B2 := b1.trans (b2.mono b1.size)
      go_wp2_with (go_at_call 5; refine (awake_any _ (tab_below HT.out B2)).mono ?_)
      rintro x w3 ⟨rfl, b3⟩
      go_wp2
      go_ret
      exact ⟨rfl, B2.trans (b3.mono B2.size)⟩
    · subst he
      have H1x : Hid (∀ w : World, Calls Tryd.prog 4 #[.int .i64 n, .int .i64 width] w fun x w' => x = .returned (.tuple #[.string ⟨a.toArray⟩, .int .i64 0]) ∧ Below w.heap.size w w') := H1'.out
      have d : ((f : Int) != 0) = true := by rw [bne_iff_ne]; omega
      clear H1' hof' hf
      go_enter Tryd.func3, Tryd.ntmps3
      go_wp2_with (go_at_call 4; refine (H1x.out _).mono ?_)
      rintro x w1 ⟨rfl, b1⟩
      go_wp2_with (go_at_call 4; refine (H2'.out _).mono ?_)
      rintro x w2 ⟨rfl, b2⟩
      have B2 := b1.trans (b2.mono b1.size)
      go_wp2_with (go_at_call 5; refine (awake_any _ (tab_below HT.out B2)).mono ?_)
      rintro x w3 ⟨rfl, b3⟩
      go_wp2
      go_ret
      exact ⟨rfl, B2.trans (b3.mono B2.size)⟩
  · have d : ((e : Int) != 0) = true := by rw [bne_iff_ne]; omega
    clear hof' he
    go_enter Tryd.func3, Tryd.ntmps3
    go_wp2_with (go_at_call 4; refine (H1'.out _).mono ?_)
    rintro x w1 ⟨rfl, b1⟩
    go_wp2_with (go_at_call 4; refine (H2'.out _).mono ?_)
    rintro x w2 ⟨rfl, b2⟩
    have B2 := b1.trans (b2.mono b1.size)
    go_wp2_with (go_at_call 5; refine (awake_any _ (tab_below HT.out B2)).mono ?_)
    rintro x w3 ⟨rfl, b3⟩
    go_wp2
    go_ret
    exact ⟨rfl, B2.trans (b3.mono B2.size)⟩
end Go.Proofs.YtakgmpebgaiinabDoor
