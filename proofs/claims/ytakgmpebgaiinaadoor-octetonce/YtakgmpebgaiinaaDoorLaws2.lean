/-
  Walks of two of layer 1's statements: OctetQuotes, OctetOnce.
-/
import Derived.Test.YtakgmpebgaiinaaDoorAwk
import Derived.Test.YtakgmpebgaiinaaDoorRefUnq
import Derived.Test.YtakgmpebgaiinaaDoorMathV
namespace Go.Proofs.YtakgmpebgaiinaaDoor
open Go.RowKit

theorem refUnquote_tuple (s : ByteArray) (w : World) (hs : s.size ≤ 1099511627776) (t : List UInt8) (h : Oct.unquote s.data.toList = some t) :
    Calls Tryd.prog 22 #[.string s] w fun e w' => e = .returned (.tuple #[.string ⟨t.toArray⟩, .int .i64 0]) ∧ Below w.heap.size w w' := by
  have := refUnquote_any s w hs; rw [h] at this; exact this
theorem refUnquote_not (s : ByteArray) (w : World) (hs : s.size ≤ 1099511627776) (h : Oct.unquote s.data.toList = none) :
    Calls Tryd.prog 22 #[.string s] w fun e w' => e = .returned (.tuple #[.string ⟨#[]⟩, .int .i64 3]) ∧ Below w.heap.size w w' := by
  have := refUnquote_any s w hs; rw [h] at this; exact this
theorem unquote_tuple (s : ByteArray) (w : World) (hs : s.size ≤ 1099511627776) (t : List UInt8) (h : Oct.unquote s.data.toList = some t) :
    Calls Tryd.prog 21 #[.string s] w fun e w' => e = .returned (.tuple #[.string ⟨t.toArray⟩, .int .i64 0]) ∧ Below w.heap.size w w' := by
  have := unquote_any s w hs; rw [h] at this; exact this
theorem unquote_not (s : ByteArray) (w : World) (hs : s.size ≤ 1099511627776) (h : Oct.unquote s.data.toList = none) :
    Calls Tryd.prog 21 #[.string s] w fun e w' => e = .returned (.tuple #[.string ⟨#[]⟩, .int .i64 3]) ∧ Below w.heap.size w w' := by
  have := unquote_any s w hs; rw [h] at this; exact this

set_option maxHeartbeats 1000000 in
theorem quotes_walk (s : ByteArray) (hs : s.size ≤ maxLen)
    (w : World) (htab : Lib.TabIs Tryd.prog w "internal/strconv.uint64pow10" .u64 Lib.pow10Tab) :
    Calls Tryd.prog 6 #[.string s] w fun e w' => e = .returned (.bool true) ∧ Below w.heap.size w w' := by
  have b0 : Below w.heap.size w (w.alloc (.cells #[.string s] 9)) := (Below.refl _ w).alloc (Nat.le_refl _) _
  have HT : Hid (Lib.TabIs Tryd.prog (w.alloc (.cells #[.string s] 9)) "internal/strconv.uint64pow10" .u64 Lib.pow10Tab) := tab_below htab b0
  clear htab
  have HL : ∀ L, L = decide (3000 < s.size) → _ := long_any s w.heap.size (w.alloc (.cells #[.string s] 9)) hs (by rw [Lib.cell_of_heap (MapKept.heap_alloc w _).1 0]; rfl)
  by_cases h3 : 3000 < s.size
  · have HL1 := HL true (decide_eq_true h3).symm
    clear HL h3
    go_enter Tryd.func6, Tryd.ntmps6
    go_wp2_with (go_at_call 9; refine HL1.mono ?_)
    rintro e w1 ⟨rfl, rfl⟩
    go_wp2_with (go_at_call 10; refine (awake_any _ HT.out).mono ?_)
    rintro e w2 ⟨rfl, b2⟩
    go_wp2
    go_ret
    exact ⟨rfl, b0.trans (b2.mono b0.size)⟩
  · have HL1 := HL false (decide_eq_false h3).symm
    have hs' : s.size ≤ 1099511627776 := by omega
    clear HL h3
    have HQ := fun w => quote_any s w hs'
    have HR := fun w => refQuote_any s w hs'
    generalize Oct.quote s.data.toList = Q at *
    have HQ' : Hid _ := HQ
    have HR' : Hid _ := HR
    clear HQ HR
    cases hu : Oct.unquote s.data.toList with
    | some t =>
      have H1 := fun w => unquote_tuple s w hs' t hu
      have H2 := fun w => refUnquote_tuple s w hs' t hu
      have H1' : Hid _ := H1
      have H2' : Hid _ := H2
      clear H1 H2 hu
      go_enter Tryd.func6, Tryd.ntmps6
      go_wp2_with (go_at_call 9; refine HL1.mono ?_)
      rintro e w1 ⟨rfl, rfl⟩
      go_wp2_with (go_at_call 21; refine (H1'.out _).mono ?_)
      rintro e w1 ⟨rfl, b1⟩
      go_wp2_with (go_at_call 22; refine (H2'.out _).mono ?_)
      rintro e w2 ⟨rfl, b2⟩
      go_wp2_with (go_at_call 23; refine (HQ'.out _).mono ?_)
      rintro e w3 ⟨rfl, b3⟩
      go_wp2_with (go_at_call 24; refine (HR'.out _).mono ?_)
      rintro e w4 ⟨rfl, b4⟩
      have B2 := b1.trans (b2.mono b1.size)
      have B3 := B2.trans (b3.mono B2.size)
      have B4 := B3.trans (b4.mono B3.size)
      go_wp2_with (go_at_call 10; refine (awake_any _ (tab_below HT.out B4)).mono ?_)
      rintro e w5 ⟨rfl, b5⟩
      go_wp2
      go_ret
      have B5 := B4.trans (b5.mono B4.size)
      exact ⟨rfl, b0.trans (B5.mono b0.size)⟩
    | none =>
      have H1 := fun w => unquote_not s w hs' hu
      have H2 := fun w => refUnquote_not s w hs' hu
      have H1' : Hid _ := H1
      have H2' : Hid _ := H2
      clear H1 H2 hu
      go_enter Tryd.func6, Tryd.ntmps6
      go_wp2_with (go_at_call 9; refine HL1.mono ?_)
      rintro e w1 ⟨rfl, rfl⟩
      go_wp2_with (go_at_call 21; refine (H1'.out _).mono ?_)
      rintro e w1 ⟨rfl, b1⟩
      go_wp2_with (go_at_call 22; refine (H2'.out _).mono ?_)
      rintro e w2 ⟨rfl, b2⟩
      go_wp2_with (go_at_call 23; refine (HQ'.out _).mono ?_)
      rintro e w3 ⟨rfl, b3⟩
      go_wp2_with (go_at_call 24; refine (HR'.out _).mono ?_)
      rintro e w4 ⟨rfl, b4⟩
      have B2 := b1.trans (b2.mono b1.size)
      have B3 := B2.trans (b3.mono B2.size)
      have B4 := B3.trans (b4.mono B3.size)
      go_wp2_with (go_at_call 10; refine (awake_any _ (tab_below HT.out B4)).mono ?_)
      rintro e w5 ⟨rfl, b5⟩
      go_wp2
      go_ret
      have B5 := B4.trans (b5.mono B4.size)
      exact ⟨rfl, b0.trans (B5.mono b0.size)⟩
end Go.Proofs.YtakgmpebgaiinaaDoor
