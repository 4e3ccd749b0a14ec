/-
  Layer 9: the walk of GreetOffers.
-/
import Derived.Test.YtpndcbilnbihaaaGf3
namespace Go.Proofs.Ytpndcbilnbihaaa
open Go.RowKit

theorem long_three (a b c : ByteArray) (w : World) (L : Bool) (hL : ([a, b, c].any fun s => decide (3000 < s.size)) = L) :
    Calls Try.prog 7 #[.slice (some ⟨w.heap.size, 0, none⟩) 3 3] (w.alloc (.cells #[.string a, .string b, .string c] 9)) fun e w' => e = .returned (.bool L) ∧ Below w.heap.size w w' :=
  long_list [a, b, c] (.cells #[.string a, .string b, .string c] 9) w (by simp) (MapKept.heap_alloc w _).1 L hL
theorem small_in {l : List ByteArray} (h : (l.any fun s => decide (3000 < s.size)) = false) : ∀ s ∈ l, s.size ≤ 3000 := by
  intro s hs
  rw [List.any_eq_false] at h
  have := h s hs
  simpa using this

set_option maxHeartbeats 1000000 in
theorem offers_walk (o : ByteArray) (_ho : o.size ≤ maxLen) (v : ByteArray) (_hv : v.size ≤ maxLen) (s : ByteArray) (_hs : s.size ≤ maxLen) (w : World) :
    Calls Try.prog 5 #[.string o, .string v, .string s] w fun e w' => e = .returned (.bool true) ∧ Below w.heap.size w w' := by
  have HA : Hid (∀ W, Calls Try.prog 8 #[] W fun e w' => e = .returned (.bool true) ∧ Below W.heap.size W w') := awake_any
  cases hb : ([o, v, s].any fun s => decide (3000 < s.size)) with
  | true =>
    have HL1 : Hid (∀ w : World, Calls Try.prog 7 #[.slice (some ⟨w.heap.size, 0, none⟩) 3 3] (w.alloc (.cells #[.string o, .string v, .string s] 9)) fun e w' => e = .returned (.bool true) ∧ Below w.heap.size w w') := fun w => long_three o v s w true hb
    clear hb
    go_enter Try.func5, Try.ntmps5
    go_wp2_with (go_at_call 7; refine (HL1.out w).mono ?_; rintro e w1 ⟨rfl, b1⟩)
    go_wp2_with (go_at_call 8; refine (HA.out _).mono ?_; rintro e w2 ⟨rfl, b2⟩)
    go_ret
    exact ⟨rfl, b1.trans (b2.mono b1.size)⟩
  | false =>
    have hsm := small_in hb
    have so := hsm o (by simp)
    have sv := hsm v (by simp)
    have ss := hsm s (by simp)
    have HL1 : Hid (∀ w : World, Calls Try.prog 7 #[.slice (some ⟨w.heap.size, 0, none⟩) 3 3] (w.alloc (.cells #[.string o, .string v, .string s] 9)) fun e w' => e = .returned (.bool false) ∧ Below w.heap.size w w') := fun w => long_three o v s w false hb
    have H1 : Hid (∀ W, Calls Try.prog 17 #[.string o] W fun e w' => e = .returned (.tuple #[.string (Gr.offer o).1, .int .i64 (Gr.offer o).2]) ∧ Below W.heap.size W w') := fun W => offer_any o W so
    have H2 : Hid (∀ W, Calls Try.prog 18 #[.string o] W fun e w' => e = .returned (.tuple #[.string (Gr.offer o).1, .int .i64 (Gr.offer o).2]) ∧ Below W.heap.size W w') := fun W => refOffer_any o W so
    have H3 : Hid (∀ W, Calls Try.prog 19 #[.string s] W fun e w' => e = .returned (.tuple #[.string (Gr.poffer s).1, .int .i64 (Gr.poffer s).2]) ∧ Below W.heap.size W w') := fun W => poffer_any s W
    have H4 : Hid (∀ W, Calls Try.prog 20 #[.string s] W fun e w' => e = .returned (.tuple #[.string (Gr.poffer s).1, .int .i64 (Gr.poffer s).2]) ∧ Below W.heap.size W w') := fun W => refPoffer_any s W ss
    have H5 : Hid (∀ W, Calls Try.prog 21 #[.string o, .string v] W fun e w' => e = .returned (.int .i64 (Gr.choose o.data.toList v.data.toList)) ∧ Below W.heap.size W w') := fun W => choose_any o v W
    have H6 : Hid (∀ W, Calls Try.prog 22 #[.string o, .string v] W fun e w' => e = .returned (.int .i64 (Gr.choose o.data.toList v.data.toList)) ∧ Below W.heap.size W w') := fun W => refChoose_any o v W so sv
    generalize (Gr.offer o).1 = x1 at *
    generalize (Gr.offer o).2 = x2 at *
    generalize (Gr.poffer s).1 = x3 at *
    generalize (Gr.poffer s).2 = x4 at *
    generalize Gr.choose o.data.toList v.data.toList = x5 at *
    clear hb hsm so sv ss
    go_enter Try.func5, Try.ntmps5
    go_wp2_with (go_at_call 7; refine (HL1.out w).mono ?_; rintro e w1 ⟨rfl, b1⟩)
    go_wp2_with (go_at_call 17; refine (H1.out _).mono ?_; rintro e w2 ⟨rfl, b2⟩)
    go_wp2_with (go_at_call 18; refine (H2.out _).mono ?_; rintro e w3 ⟨rfl, b3⟩)
    go_wp2_with (go_at_call 19; refine (H3.out _).mono ?_; rintro e w4 ⟨rfl, b4⟩)
    go_wp2_with (go_at_call 20; refine (H4.out _).mono ?_; rintro e w5 ⟨rfl, b5⟩)
    go_wp2_with (go_at_call 21; refine (H5.out _).mono ?_; rintro e w6 ⟨rfl, b6⟩)
    go_wp2_with (go_at_call 22; refine (H6.out _).mono ?_; rintro e w7 ⟨rfl, b7⟩)
    go_wp2_with (go_at_call 8; refine (HA.out _).mono ?_; rintro e w8 ⟨rfl, b8⟩)
    go_ret
    have B2 := b1.trans (b2.mono b1.size)
    have B3 := B2.trans (b3.mono B2.size)
    have B4 := B3.trans (b4.mono B3.size)
    have B5 := B4.trans (b5.mono B4.size)
    have B6 := B5.trans (b6.mono B5.size)
    have B7 := B6.trans (b7.mono B6.size)
    exact ⟨rfl, B7.trans (b8.mono B7.size)⟩
end Go.Proofs.Ytpndcbilnbihaaa
