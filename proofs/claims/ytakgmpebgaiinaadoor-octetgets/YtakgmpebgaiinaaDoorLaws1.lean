/-
  Walks of three of layer 1's statements: OctetGets, OctetPuts, OctetNumbers.
-/
import Derived.Test.YtakgmpebgaiinaaDoorAwk
namespace Go.Proofs.YtakgmpebgaiinaaDoor
open Go.RowKit

set_option maxHeartbeats 1000000 in
theorem gets_walk (s : ByteArray) (hs : s.size ≤ maxLen) (a : Int) (_ha0 : -9223372036854775808 ≤ a) (ha1 : a ≤ 9223372036854775807) (size : Int) (_hz0 : -9223372036854775808 ≤ size) (_hz1 : size ≤ 9223372036854775807)
    (w : World) (htab : Lib.TabIs Tryd.prog w "internal/strconv.uint64pow10" .u64 Lib.pow10Tab) :
    Calls Tryd.prog 5 #[.string s, .int .i64 a, .int .i64 size] w fun e w' => e = .returned (.bool true) ∧ Below w.heap.size w w' := by
  have b0 : Below w.heap.size w (w.alloc (.cells #[.string s] 9)) := (Below.refl _ w).alloc (Nat.le_refl _) _
  have HT : Hid (Lib.TabIs Tryd.prog (w.alloc (.cells #[.string s] 9)) "internal/strconv.uint64pow10" .u64 Lib.pow10Tab) := tab_below htab b0
  clear htab
  have HL : ∀ L, L = decide (3000 < s.size) → _ := long_any s w.heap.size (w.alloc (.cells #[.string s] 9)) hs (by rw [Lib.cell_of_heap (MapKept.heap_alloc w _).1 0]; rfl)
  by_cases h3 : 3000 < s.size
  · have HL1 := HL true (decide_eq_true h3).symm
    clear HL h3
    go_enter Tryd.func5, Tryd.ntmps5
    go_wp2_with (go_at_call 9; refine HL1.mono ?_)
    rintro e w1 ⟨rfl, rfl⟩
    go_wp2_with (go_at_call 10; refine (awake_any _ HT.out).mono ?_)
    rintro e w2 ⟨rfl, b2⟩
    go_wp2
    go_ret
    exact ⟨rfl, b0.trans (b2.mono b0.size)⟩
  · have HL1 := HL false (decide_eq_false h3).symm
    clear HL h3
    generalize hg : Oct.get s.data.toList a size = R at *
    have HG := get_any s a size (w.alloc (.cells #[.string s] 9)) hs ha1
    have HR := refGet_any s a size (w.alloc (.cells #[.string s] 9)) hs ha1
    rw [hg] at HG HR
    clear hg
    go_enter Tryd.func5, Tryd.ntmps5
    go_wp2_with (go_at_call 9; refine HL1.mono ?_)
    rintro e w1 ⟨rfl, rfl⟩
    go_wp2_with (go_at_call 19; refine HG.mono ?_)
    rintro e w1 ⟨rfl, rfl⟩
    go_wp2_with (go_at_call 20; refine HR.mono ?_)
    rintro e w1 ⟨rfl, rfl⟩
    go_wp2_with (go_at_call 10; refine (awake_any _ HT.out).mono ?_)
    rintro e w2 ⟨rfl, b2⟩
    go_wp2
    go_ret
    exact ⟨rfl, b0.trans (b2.mono b0.size)⟩

set_option maxHeartbeats 1000000 in
theorem puts_walk (n : Int) (hn0 : -9223372036854775808 ≤ n) (hn1 : n ≤ 9223372036854775807) (size : Int) (_hz0 : -9223372036854775808 ≤ size) (_hz1 : size ≤ 9223372036854775807)
    (w : World) (htab : Lib.TabIs Tryd.prog w "internal/strconv.uint64pow10" .u64 Lib.pow10Tab) :
    Calls Tryd.prog 4 #[.int .i64 n, .int .i64 size] w fun e w' => e = .returned (.bool true) ∧ Below w.heap.size w w' := by
  have HT : Hid (Lib.TabIs Tryd.prog w "internal/strconv.uint64pow10" .u64 Lib.pow10Tab) := htab
  clear htab
  have H1 := fun w => put_any n size w hn0 hn1
  have H2 := fun w => refPut_any n size w hn0 hn1
  have H3 := fun w => fixed_any n size w hn0 hn1
  have H4 := fun w => refFixed_any n size w hn0 hn1
  generalize Oct.put n size = R at *
  generalize Oct.fixed n size = S at *
  have H1' : Hid _ := H1
  have H2' : Hid _ := H2
  have H3' : Hid _ := H3
  have H4' : Hid _ := H4
  clear H1 H2 H3 H4
  go_enter Tryd.func4, Tryd.ntmps4
  go_wp2_with (go_at_call 15; refine (H1'.out _).mono ?_)
  rintro e w1 ⟨rfl, b1⟩
  go_wp2_with (go_at_call 16; refine (H2'.out _).mono ?_)
  rintro e w2 ⟨rfl, b2⟩
  go_wp2_with (go_at_call 17; refine (H3'.out _).mono ?_)
  rintro e w3 ⟨rfl, b3⟩
  go_wp2_with (go_at_call 18; refine (H4'.out _).mono ?_)
  rintro e w4 ⟨rfl, b4⟩
  have B2 : Below w.heap.size w w2 := b1.trans (b2.mono b1.size)
  have B3 : Below w.heap.size w w3 := B2.trans (b3.mono B2.size)
  have B4 : Below w.heap.size w w4 := B3.trans (b4.mono B3.size)
  go_wp2_with (go_at_call 10; refine (awake_any _ (tab_below HT.out B4)).mono ?_)
  rintro e w5 ⟨rfl, b5⟩
  go_wp2
  go_ret
  exact ⟨rfl, B4.trans (b5.mono B4.size)⟩

set_option maxHeartbeats 1000000 in
theorem numbers_walk (n : Int) (hn0 : -9223372036854775808 ≤ n) (hn1 : n ≤ 9223372036854775807) (s : ByteArray) (hs : s.size ≤ maxLen)
    (w : World) (htab : Lib.TabIs Tryd.prog w "internal/strconv.uint64pow10" .u64 Lib.pow10Tab) :
    Calls Tryd.prog 3 #[.int .i64 n, .string s] w fun e w' => e = .returned (.bool true) ∧ Below w.heap.size w w' := by
  have b0 : Below w.heap.size w (w.alloc (.cells #[.string s] 9)) := (Below.refl _ w).alloc (Nat.le_refl _) _
  have HT : Hid (Lib.TabIs Tryd.prog (w.alloc (.cells #[.string s] 9)) "internal/strconv.uint64pow10" .u64 Lib.pow10Tab) := tab_below htab b0
  clear htab
  have HL : ∀ L, L = decide (3000 < s.size) → _ := long_any s w.heap.size (w.alloc (.cells #[.string s] 9)) hs (by rw [Lib.cell_of_heap (MapKept.heap_alloc w _).1 0]; rfl)
  by_cases h3 : 3000 < s.size
  · have HL1 := HL true (decide_eq_true h3).symm
    clear HL h3
    go_enter Tryd.func3, Tryd.ntmps3
    go_wp2_with (go_at_call 9; refine HL1.mono ?_)
    rintro e w1 ⟨rfl, rfl⟩
    go_wp2_with (go_at_call 10; refine (awake_any _ HT.out).mono ?_)
    rintro e w2 ⟨rfl, b2⟩
    go_wp2
    go_ret
    exact ⟨rfl, b0.trans (b2.mono b0.size)⟩
  · have HL1 := HL false (decide_eq_false h3).symm
    clear HL h3
    have HG := number_any s (w.alloc (.cells #[.string s] 9)) hs
    have HR := refNumber_any s (w.alloc (.cells #[.string s] 9)) hs
    generalize Oct.number s.data.toList = R at *
    have H1 := text_any n (w.alloc (.cells #[.string s] 9)) hn0 hn1 HT.out
    have H2 : Hid _ := fun w => refText_any n w hn0 hn1
    have H2' := H2.out
    clear H2
    generalize Lib.itoa n = I at *
    have H2 : Hid _ := H2'
    clear H2'
    go_enter Tryd.func3, Tryd.ntmps3
    go_wp2_with (go_at_call 9; refine HL1.mono ?_)
    rintro e w1 ⟨rfl, rfl⟩
    go_wp2_with (go_at_call 11; refine HG.mono ?_)
    rintro e w1 ⟨rfl, rfl⟩
    go_wp2_with (go_at_call 12; refine HR.mono ?_)
    rintro e w1 ⟨rfl, rfl⟩
    go_wp2_with (go_at_call 13; refine H1.mono ?_)
    rintro e w2 ⟨rfl, b2⟩
    go_wp2_with (go_at_call 14; refine (H2.out _).mono ?_)
    rintro e w3 ⟨rfl, b3⟩
    have B3 := b2.trans (b3.mono b2.size)
    go_wp2_with (go_at_call 10; refine (awake_any _ (tab_below HT.out B3)).mono ?_)
    rintro e w4 ⟨rfl, b4⟩
    go_wp2
    go_ret
    have B4 := B3.trans (b4.mono B3.size)
    exact ⟨rfl, b0.trans (B4.mono b0.size)⟩
end Go.Proofs.YtakgmpebgaiinaaDoor
