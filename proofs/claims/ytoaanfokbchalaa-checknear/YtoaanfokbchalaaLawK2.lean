/-
  Walks of layer 2's statements: CheckPackets, CheckMore, CheckJoins, CheckXors.
-/
import Derived.Test.YtoaanfokbchalaaLawK1
import Derived.Laws.BytesArg
namespace Go.Proofs.Ytoaanfokbchalaa
open Go.RowKit

set_option maxHeartbeats 1000000 in
theorem packets_walk (s : ByteArray) (hs : s.size ≤ maxLen) (c : Int) (_h0 : -9223372036854775808 ≤ c) (_h1 : c ≤ 9223372036854775807) (w : World) :
    Calls Try.prog 4 #[.string s, .int .i64 c] w fun e w' => e = .returned (.bool true) ∧ Below w.heap.size w w' := by
  have HL := fun w L hL => long_one s w L hL
  have H1 := fun w => packet_any s c w hs
  have H2 := fun w => refPacket_any s c w hs
  have H3 := fun w => control_any c w
  have H4 := fun w => refControl_any c w
  by_cases hb : 5000 < s.size
  · have HL1 : Hid (∀ w : World, Calls Try.prog 9 #[.slice (some ⟨w.heap.size, 0, none⟩) 1 1] (w.alloc (.cells #[.string s] 9)) fun e w' => e = .returned (.bool true) ∧ Below w.heap.size w w') := fun w => HL w true (decide_eq_true hb)
    clear HL H1 H2 H3 H4 hb
    go_enter Try.func4, Try.ntmps4
    go_wp2_with (go_at_call 9; refine (HL1.out w).mono ?_)
    rintro e w1 ⟨rfl, b1⟩
    go_wp2_with (go_at_call 10; refine (awake_any _).mono ?_; rintro e w3 ⟨rfl, rfl⟩)
    go_ret
    exact ⟨rfl, b1⟩
  · have HL1 : Hid (∀ w : World, Calls Try.prog 9 #[.slice (some ⟨w.heap.size, 0, none⟩) 1 1] (w.alloc (.cells #[.string s] 9)) fun e w' => e = .returned (.bool false) ∧ Below w.heap.size w w') := fun w => HL w false (decide_eq_false hb)
    generalize Chk.packet s.data.toList c = n1 at *
    generalize Chk.control c = n2 at *
    clear HL hb
    go_enter Try.func4, Try.ntmps4
    go_wp2_with (go_at_call 9; refine (HL1.out w).mono ?_)
    rintro e w1 ⟨rfl, b1⟩
    go_wp2_with (go_at_call 9; refine (HL1.out w1).mono ?_)
    rintro e w2 ⟨rfl, b2⟩
    go_wp2_with (go_at_call 17; refine (H1 _).mono ?_; rintro e w3 ⟨rfl, rfl⟩)
    go_wp2_with (go_at_call 18; refine (H2 _).mono ?_; rintro e w3 ⟨rfl, rfl⟩)
    go_wp2_with (go_at_call 19; refine (H3 _).mono ?_; rintro e w3 ⟨rfl, rfl⟩)
    go_wp2_with (go_at_call 20; refine (H4 _).mono ?_; rintro e w3 ⟨rfl, rfl⟩)
    go_wp2_with (go_at_call 10; refine (awake_any _).mono ?_; rintro e w3 ⟨rfl, rfl⟩)
    go_ret
    exact ⟨rfl, b1.trans (b2.mono b1.size)⟩

set_option maxHeartbeats 1000000 in
theorem more_walk (c : Int) (_h0 : -9223372036854775808 ≤ c) (_h1 : c ≤ 9223372036854775807) (s : ByteArray) (hs : s.size ≤ maxLen) (w : World) :
    Calls Try.prog 5 #[.int .i64 c, .string s] w fun e w' => e = .returned (.bool true) ∧ Below w.heap.size w w' := by
  have HL := fun w L hL => long_one s w L hL
  have H1 := fun w => more_any c s w hs
  have H2 := fun w => refMore_any c s w hs
  by_cases hb : 5000 < s.size
  · have HL1 : Hid (∀ w : World, Calls Try.prog 9 #[.slice (some ⟨w.heap.size, 0, none⟩) 1 1] (w.alloc (.cells #[.string s] 9)) fun e w' => e = .returned (.bool true) ∧ Below w.heap.size w w') := fun w => HL w true (decide_eq_true hb)
    clear HL H1 H2 hb
    go_enter Try.func5, Try.ntmps5
    go_wp2_with (go_at_call 9; refine (HL1.out w).mono ?_)
    rintro e w1 ⟨rfl, b1⟩
    go_wp2_with (go_at_call 10; refine (awake_any _).mono ?_; rintro e w3 ⟨rfl, rfl⟩)
    go_ret
    exact ⟨rfl, b1⟩
  · have HL1 : Hid (∀ w : World, Calls Try.prog 9 #[.slice (some ⟨w.heap.size, 0, none⟩) 1 1] (w.alloc (.cells #[.string s] 9)) fun e w' => e = .returned (.bool false) ∧ Below w.heap.size w w') := fun w => HL w false (decide_eq_false hb)
    generalize Chk.more c s.data.toList = n1 at *
    clear HL hb
    go_enter Try.func5, Try.ntmps5
    go_wp2_with (go_at_call 9; refine (HL1.out w).mono ?_)
    rintro e w1 ⟨rfl, b1⟩
    go_wp2_with (go_at_call 9; refine (HL1.out w1).mono ?_)
    rintro e w2 ⟨rfl, b2⟩
    go_wp2_with (go_at_call 21; refine (H1 _).mono ?_; rintro e w3 ⟨rfl, rfl⟩)
    go_wp2_with (go_at_call 22; refine (H2 _).mono ?_; rintro e w3 ⟨rfl, rfl⟩)
    go_wp2_with (go_at_call 10; refine (awake_any _).mono ?_; rintro e w3 ⟨rfl, rfl⟩)
    go_ret
    exact ⟨rfl, b1.trans (b2.mono b1.size)⟩

theorem long_many (l : List ByteArray) (hn : l.length ≤ 1000) (w : World) (L : Bool) (hL : l.any (fun s => decide (5000 < s.size)) = L) :
    Calls Try.prog 9 #[.slice (some ⟨w.heap.size, 0, none⟩) l.length l.length] (w.alloc (.cells (l.map Value.string).toArray 9)) fun e w' => e = .returned (.bool L) ∧ Below w.heap.size w w' := by
  have h := long_any l w.heap.size (w.alloc (.cells (l.map Value.string).toArray 9)) hn (fun i hi => by
    rw [Lib.cell_of_heap (MapKept.heap_alloc w _).1 i]
    simp [hi])
  rw [hL] at h
  refine h.mono ?_
  rintro e w' ⟨rfl, rfl⟩
  exact ⟨rfl, (Below.refl _ w).alloc (Nat.le_refl _) _⟩
end Go.Proofs.Ytoaanfokbchalaa
