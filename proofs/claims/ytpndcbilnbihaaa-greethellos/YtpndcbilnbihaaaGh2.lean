/-
  Layer 9: the walk of GreetHellos.
-/
import Derived.Test.YtpndcbilnbihaaaGh1
namespace Go.Proofs.Ytpndcbilnbihaaa
open Go.RowKit

theorem long_two (a b : ByteArray) (w : World) (L : Bool) (hL : ([a, b].any fun s => decide (3000 < s.size)) = L) :
    Calls Try.prog 7 #[.slice (some ⟨w.heap.size, 0, none⟩) 2 2] (w.alloc (.cells #[.string a, .string b] 9)) fun e w' => e = .returned (.bool L) ∧ Below w.heap.size w w' :=
  long_list [a, b] (.cells #[.string a, .string b] 9) w (by simp) (MapKept.heap_alloc w _).1 L hL
theorem small_of {l : List ByteArray} (h : (l.any fun s => decide (3000 < s.size)) = false) : ∀ s ∈ l, s.size ≤ 3000 := by
  intro s hs
  rw [List.any_eq_false] at h
  have := h s hs
  simpa using this

set_option maxHeartbeats 1000000 in
theorem hellos_walk (y : ByteArray) (_hy : y.size ≤ maxLen) (s : ByteArray) (_hs : s.size ≤ maxLen) (w : World) :
    Calls Try.prog 3 #[.string y, .string s] w fun e w' => e = .returned (.bool true) ∧ Below w.heap.size w w' := by
  have HA : Hid (∀ W, Calls Try.prog 8 #[] W fun e w' => e = .returned (.bool true) ∧ Below W.heap.size W w') := awake_any
  cases hb : ([y, s].any fun s => decide (3000 < s.size)) with
  | true =>
    have HL1 : Hid (∀ w : World, Calls Try.prog 7 #[.slice (some ⟨w.heap.size, 0, none⟩) 2 2] (w.alloc (.cells #[.string y, .string s] 9)) fun e w' => e = .returned (.bool true) ∧ Below w.heap.size w w') := fun w => long_two y s w true hb
    clear hb
    go_enter Try.func3, Try.ntmps3
    go_wp2_with (go_at_call 7; refine (HL1.out w).mono ?_; rintro e w1 ⟨rfl, b1⟩)
    go_wp2_with (go_at_call 8; refine (HA.out _).mono ?_; rintro e w2 ⟨rfl, b2⟩)
    go_ret
    exact ⟨rfl, b1.trans (b2.mono b1.size)⟩
  | false =>
    have HL1 : Hid (∀ w : World, Calls Try.prog 7 #[.slice (some ⟨w.heap.size, 0, none⟩) 2 2] (w.alloc (.cells #[.string y, .string s] 9)) fun e w' => e = .returned (.bool false) ∧ Below w.heap.size w w') := fun w => long_two y s w false hb
    have H1 : Hid (∀ W, Calls Try.prog 9 #[.string y] W fun e w' => e = .returned (.tuple #[.string (Gr.hello y).1, .int .i64 (Gr.hello y).2]) ∧ W = w') := fun W => (hello_any y W _hy).mono fun e w' h => ⟨h.1, h.2.symm⟩
    have H2 : Hid (∀ W, Calls Try.prog 10 #[.string y] W fun e w' => e = .returned (.tuple #[.string (Gr.hello y).1, .int .i64 (Gr.hello y).2]) ∧ W = w') := fun W => (refHello_any y W _hy).mono fun e w' h => ⟨h.1, h.2.symm⟩
    have H3 : Hid (∀ W, Calls Try.prog 11 #[.string s] W fun e w' => e = .returned (.tuple #[.string (Gr.phello s).1, .int .i64 (Gr.phello s).2]) ∧ W = w') := fun W => (phello_any s W _hs).mono fun e w' h => ⟨h.1, h.2.symm⟩
    have H4 : Hid (∀ W, Calls Try.prog 12 #[.string s] W fun e w' => e = .returned (.tuple #[.string (Gr.phello s).1, .int .i64 (Gr.phello s).2]) ∧ W = w') := fun W => (refPhello_any s W _hs).mono fun e w' h => ⟨h.1, h.2.symm⟩
    have H5 : Hid (∀ W, Calls Try.prog 13 #[.string s] W fun e w' => e = .returned (.tuple #[.string (Gr.wrapOf s).1, .int .i64 (Gr.wrapOf s).2]) ∧ W = w') := fun W => (wrap_any s W _hs).mono fun e w' h => ⟨h.1, h.2.symm⟩
    have H6 : Hid (∀ W, Calls Try.prog 14 #[.string s] W fun e w' => e = .returned (.tuple #[.string (Gr.wrapOf s).1, .int .i64 (Gr.wrapOf s).2]) ∧ W = w') := fun W => (refWrap_any s W _hs).mono fun e w' h => ⟨h.1, h.2.symm⟩
    generalize (Gr.hello y).1 = x1 at *
    generalize (Gr.hello y).2 = x2 at *
    generalize (Gr.phello s).1 = x3 at *
    generalize (Gr.phello s).2 = x4 at *
    generalize (Gr.wrapOf s).1 = x5 at *
    generalize (Gr.wrapOf s).2 = x6 at *
    clear hb
    go_enter Try.func3, Try.ntmps3
    go_wp2_with (go_at_call 7; refine (HL1.out w).mono ?_; rintro e w1 ⟨rfl, b1⟩)
    go_wp2_with (go_at_call 9; refine (H1.out _).mono ?_; rintro e w' ⟨rfl, rfl⟩)
    go_wp2_with (go_at_call 10; refine (H2.out _).mono ?_; rintro e w' ⟨rfl, rfl⟩)
    go_wp2_with (go_at_call 11; refine (H3.out _).mono ?_; rintro e w' ⟨rfl, rfl⟩)
    go_wp2_with (go_at_call 12; refine (H4.out _).mono ?_; rintro e w' ⟨rfl, rfl⟩)
    go_wp2_with (go_at_call 13; refine (H5.out _).mono ?_; rintro e w' ⟨rfl, rfl⟩)
    go_wp2_with (go_at_call 14; refine (H6.out _).mono ?_; rintro e w' ⟨rfl, rfl⟩)
    go_wp2_with (go_at_call 8; refine (HA.out _).mono ?_; rintro e w4 ⟨rfl, b4⟩)
    go_ret
    exact ⟨rfl, b1.trans (b4.mono b1.size)⟩
end Go.Proofs.Ytpndcbilnbihaaa
