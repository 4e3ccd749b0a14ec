/-
  Layer 9: the walks of GreetScans and GreetPieces.
-/
import Derived.Test.YtpndcbilnbihaaaLong9
namespace Go.Proofs.Ytpndcbilnbihaaa
open Go.RowKit

theorem long_list (l : List ByteArray) (o : Obj) (w : World) (hn : l.length ≤ 1000) (hb : (w.alloc o).heap[w.heap.size]? = some (.cells (l.map Value.string).toArray 9 (0, 0))) (L : Bool) (hL : (l.any fun s => decide (3000 < s.size)) = L) :
    Calls Try.prog 7 #[.slice (some ⟨w.heap.size, 0, none⟩) l.length l.length] (w.alloc o) fun e w' => e = .returned (.bool L) ∧ Below w.heap.size w w' := by
  have h := long_any l w.heap.size (w.alloc o) hn (fun i hi => by
    rw [Lib.cell_of_heap hb]
    simp [hi])
  rw [hL] at h
  refine h.mono ?_
  rintro e w' ⟨rfl, rfl⟩
  exact ⟨rfl, (Below.refl _ w).alloc (Nat.le_refl _) _⟩

set_option maxHeartbeats 1000000 in
theorem scans_walk (s : ByteArray) (_hs : s.size ≤ maxLen) (w : World) :
    Calls Try.prog 4 #[.string s] w fun e w' => e = .returned (.bool true) ∧ Below w.heap.size w w' := by
  have HA : Hid (∀ W, Calls Try.prog 8 #[] W fun e w' => e = .returned (.bool true) ∧ Below W.heap.size W w') := awake_any
  by_cases hb : 3000 < s.size
  · have HL1 : Hid (∀ w : World, Calls Try.prog 7 #[.slice (some ⟨w.heap.size, 0, none⟩) 1 1] (w.alloc (.cells #[.string s] 9)) fun e w' => e = .returned (.bool true) ∧ Below w.heap.size w w') := fun w => long_one s w true (decide_eq_true hb)
    clear hb
    go_enter Try.func4, Try.ntmps4
    go_wp2_with (go_at_call 7; refine (HL1.out w).mono ?_; rintro e w1 ⟨rfl, b1⟩)
    go_wp2_with (go_at_call 8; refine (HA.out _).mono ?_; rintro e w2 ⟨rfl, b2⟩)
    go_ret
    exact ⟨rfl, b1.trans (b2.mono b1.size)⟩
  · have HL1 : Hid (∀ w : World, Calls Try.prog 7 #[.slice (some ⟨w.heap.size, 0, none⟩) 1 1] (w.alloc (.cells #[.string s] 9)) fun e w' => e = .returned (.bool false) ∧ Below w.heap.size w w') := fun w => long_one s w false (decide_eq_false hb)
    have H1 : Hid (∀ W, Calls Try.prog 15 #[.string s] W fun e w' => e = .returned (.tuple #[.string (Gr.scan s).1, .string (Gr.scan s).2.1, .bool (Gr.scan s).2.2]) ∧ Below W.heap.size W w') := fun W => scan_any s W (by omega)
    have H2 : Hid (∀ W, Calls Try.prog 16 #[.string s] W fun e w' => e = .returned (.tuple #[.string (Gr.scan s).1, .string (Gr.scan s).2.1, .bool (Gr.scan s).2.2]) ∧ Below W.heap.size W w') := fun W => refScan_any s W (by omega)
    generalize (Gr.scan s).1 = x at *
    generalize (Gr.scan s).2.1 = y at *
    generalize (Gr.scan s).2.2 = z at *
    clear hb
    go_enter Try.func4, Try.ntmps4
    go_wp2_with (go_at_call 7; refine (HL1.out w).mono ?_; rintro e w1 ⟨rfl, b1⟩)
    go_wp2_with (go_at_call 15; refine (H1.out _).mono ?_; rintro e w2 ⟨rfl, b2⟩)
    go_wp2_with (go_at_call 16; refine (H2.out _).mono ?_; rintro e w3 ⟨rfl, b3⟩)
    go_wp2_with (go_at_call 8; refine (HA.out _).mono ?_; rintro e w4 ⟨rfl, b4⟩)
    go_ret
    have B2 := b1.trans (b2.mono b1.size)
    have B3 := B2.trans (b3.mono B2.size)
    exact ⟨rfl, B3.trans (b4.mono B3.size)⟩
end Go.Proofs.Ytpndcbilnbihaaa
