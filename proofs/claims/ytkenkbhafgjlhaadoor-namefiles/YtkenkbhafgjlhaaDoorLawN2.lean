/-
  Walks of layer 3's statements: NameFiles, NameReads.
-/
import Derived.Test.YtkenkbhafgjlhaaDoorLawN1
namespace Go.Proofs.YtkenkbhafgjlhaaDoor
open Go.RowKit

set_option maxHeartbeats 1000000 in
theorem files_walk (k : Int) (_k0 : -9223372036854775808 ≤ k) (_k1 : k ≤ 9223372036854775807) (s : ByteArray) (hs : s.size ≤ maxLen) (g : Int) (_g0 : -9223372036854775808 ≤ g) (_g1 : g ≤ 9223372036854775807) (n : Int) (_n0 : -9223372036854775808 ≤ n) (_n1 : n ≤ 9223372036854775807) (w : World) (htab : Lib.TabIs Tryd.prog w "internal/strconv.uint64pow10" .u64 Lib.pow10Tab) :
    Calls Tryd.prog 5 #[.int .i64 k, .string s, .agg #[.int .i64 g, .int .i64 n]] w fun e w' => e = .returned (.bool true) ∧ Below w.heap.size w w' := by
  have b0 := below_alloc1 w (.cells #[.int .i64 g, .int .i64 n] 28)
  have HA : Hid (∀ W, Below w.heap.size w W → Calls Tryd.prog 10 #[] W fun e w' => e = .returned (.bool true) ∧ Below W.heap.size W w') := fun W hW => awake_any W (tab_below htab hW)
  have H1 : Hid (∀ W, Below w.heap.size w W → Calls Tryd.prog 19 #[.int .i64 k, .string s, .agg #[.int .i64 g, .int .i64 n]] W fun e w' => e = .returned (.tuple #[.string ⟨(Nam.file k s.data.toList g n).1.toArray⟩, .int .i64 (Nam.file k s.data.toList g n).2]) ∧ Below W.heap.size W w') := fun W hW => file_any k s g n W hs (tab_below htab hW)
  have H2 : Hid (∀ W, Calls Tryd.prog 20 #[.int .i64 k, .string s, .agg #[.int .i64 g, .int .i64 n]] W fun e w' => e = .returned (.tuple #[.string ⟨(Nam.file k s.data.toList g n).1.toArray⟩, .int .i64 (Nam.file k s.data.toList g n).2]) ∧ Below W.heap.size W w') := fun W => refFile_any k s g n W hs
  have H3 : Hid (∀ W, Calls Tryd.prog 21 #[.int .i64 k, .string s] W fun e w' => e = .returned (.tuple #[.string ⟨(Nam.note k s.data.toList).1.toArray⟩, .int .i64 (Nam.note k s.data.toList).2]) ∧ w' = W) := fun W => note_any k s W hs
  have H4 : Hid (∀ W, Calls Tryd.prog 22 #[.int .i64 k, .string s] W fun e w' => e = .returned (.tuple #[.string ⟨(Nam.note k s.data.toList).1.toArray⟩, .int .i64 (Nam.note k s.data.toList).2]) ∧ Below W.heap.size W w') := fun W => refNote_any k s W hs
  generalize (Nam.file k s.data.toList g n).1 = A at *
  generalize (Nam.file k s.data.toList g n).2 = E at *
  generalize (Nam.note k s.data.toList).1 = C at *
  generalize (Nam.note k s.data.toList).2 = D at *
  clear htab hs
  by_cases hb : 3000 < s.size
  · have HL1 : Hid (Calls Tryd.prog 9 #[.slice (some ⟨w.heap.size + 1, 0, none⟩) 1 1] ((w.alloc (.cells #[.int .i64 g, .int .i64 n] 28)).alloc (.cells #[.string s] 9)) fun e w' => e = .returned (.bool true) ∧ Below (w.alloc (.cells #[.int .i64 g, .int .i64 n] 28)).heap.size (w.alloc (.cells #[.int .i64 g, .int .i64 n] 28)) w') := long_boxed s w _ true (decide_eq_true hb)
    clear hb
    go_enter Tryd.func5, Tryd.ntmps5
    go_wp2_with (go_at_call 9; refine HL1.out.mono ?_)
    rintro e w1 ⟨rfl, b1⟩
    have B1 := b0.trans (b1.mono b0.size)
    go_wp2_with (go_at_call 10; refine (HA.out _ B1).mono ?_)
    rintro e w2 ⟨rfl, b2⟩
    go_wp2
    go_ret
    exact ⟨rfl, B1.trans (b2.mono B1.size)⟩
  · have HL1 : Hid (Calls Tryd.prog 9 #[.slice (some ⟨w.heap.size + 1, 0, none⟩) 1 1] ((w.alloc (.cells #[.int .i64 g, .int .i64 n] 28)).alloc (.cells #[.string s] 9)) fun e w' => e = .returned (.bool false) ∧ Below (w.alloc (.cells #[.int .i64 g, .int .i64 n] 28)).heap.size (w.alloc (.cells #[.int .i64 g, .int .i64 n] 28)) w') := long_boxed s w _ false (decide_eq_false hb)
    clear hb
    go_enter Tryd.func5, Tryd.ntmps5
    go_wp2_with (go_at_call 9; refine HL1.out.mono ?_)
    rintro e w1 ⟨rfl, b1⟩
    have B1 := b0.trans (b1.mono b0.size)
    obtain ⟨hc1, hf1⟩ := bcell b1
    go_wp2_with (go_at_call 19; refine (H1.out _ B1).mono ?_)
    rintro e w2 ⟨rfl, b2⟩
    have c2 := b1.trans (b2.mono b1.size)
    clear hc1 hf1 B1 b1 b2
    obtain ⟨hc2, hf2⟩ := bcell c2
    go_wp2_with (go_at_call 20; refine (H2.out _).mono ?_)
    rintro e w3 ⟨rfl, b3⟩
    have c3 := c2.trans (b3.mono c2.size)
    clear hc2 hf2 c2 b3
    go_wp2_with (go_at_call 21; refine (H3.out _).mono ?_)
    rintro e w4 ⟨rfl, rfl⟩
    go_wp2_with (go_at_call 22; refine (H4.out _).mono ?_)
    rintro e w5 ⟨rfl, b5⟩
    have B5 := b0.trans ((c3.trans (b5.mono c3.size)).mono b0.size)
    go_wp2_with (go_at_call 10; refine (HA.out _ B5).mono ?_)
    rintro e w6 ⟨rfl, b6⟩
    go_wp2
    go_ret
    exact ⟨rfl, B5.trans (b6.mono B5.size)⟩

set_option maxHeartbeats 1000000 in
theorem reads_walk (s : ByteArray) (hs : s.size ≤ maxLen) (w : World) (htab : Lib.TabIs Tryd.prog w "internal/strconv.uint64pow10" .u64 Lib.pow10Tab) :
    Calls Tryd.prog 6 #[.string s] w fun e w' => e = .returned (.bool true) ∧ Below w.heap.size w w' := by
  have HL := fun w L hL => long_one s w L hL
  have HA : Hid (∀ W, Below w.heap.size w W → Calls Tryd.prog 10 #[] W fun e w' => e = .returned (.bool true) ∧ Below W.heap.size W w') := fun W hW => awake_any W (tab_below htab hW)
  have H1 : Hid (∀ W, Calls Tryd.prog 23 #[.string s] W fun e w' => e = .returned (.tuple #[.int .i64 (Nam.pfile s.data.toList).1, .string ⟨(Nam.pfile s.data.toList).2.1.toArray⟩, .agg #[.int .i64 (Nam.pfile s.data.toList).2.2.1, .int .i64 (Nam.pfile s.data.toList).2.2.2.1], .int .i64 (Nam.pfile s.data.toList).2.2.2.2]) ∧ Below W.heap.size W w') := fun W => parseFile_any s W hs
  have H2 : Hid (∀ W, Calls Tryd.prog 24 #[.string s] W fun e w' => e = .returned (.tuple #[.int .i64 (Nam.pfile s.data.toList).1, .string ⟨(Nam.pfile s.data.toList).2.1.toArray⟩, .agg #[.int .i64 (Nam.pfile s.data.toList).2.2.1, .int .i64 (Nam.pfile s.data.toList).2.2.2.1], .int .i64 (Nam.pfile s.data.toList).2.2.2.2]) ∧ Below W.heap.size W w') := fun W => refParseFile_any s W hs
  generalize Nam.pfile s.data.toList = X at *
  obtain ⟨k, t, x, y, z⟩ := X
  dsimp only at H1 H2
  clear htab hs
  by_cases hb : 3000 < s.size
  · have HL1 : Hid (∀ w : World, Calls Tryd.prog 9 #[.slice (some ⟨w.heap.size, 0, none⟩) 1 1] (w.alloc (.cells #[.string s] 9)) fun e w' => e = .returned (.bool true) ∧ Below w.heap.size w w') := fun w => HL w true (decide_eq_true hb)
    clear HL hb
    go_enter Tryd.func6, Tryd.ntmps6
    go_wp2_with (go_at_call 9; refine (HL1.out w).mono ?_)
    rintro e w1 ⟨rfl, b1⟩
    go_wp2_with (go_at_call 10; refine (HA.out _ b1).mono ?_)
    rintro e w2 ⟨rfl, b2⟩
    go_wp2
    go_ret
    exact ⟨rfl, b1.trans (b2.mono b1.size)⟩
  · have HL1 : Hid (∀ w : World, Calls Tryd.prog 9 #[.slice (some ⟨w.heap.size, 0, none⟩) 1 1] (w.alloc (.cells #[.string s] 9)) fun e w' => e = .returned (.bool false) ∧ Below w.heap.size w w') := fun w => HL w false (decide_eq_false hb)
    clear HL hb
    go_enter Tryd.func6, Tryd.ntmps6
    go_wp2_with (go_at_call 9; refine (HL1.out w).mono ?_)
    rintro e w1 ⟨rfl, b1⟩
    go_wp2_with (go_at_call 23; refine (H1.out _).mono ?_)
    rintro e w4 ⟨rfl, b4⟩
    have B4 := b1.trans (b4.mono b1.size)
    clear b1 b4
    go_wp2_with (go_at_call 24; refine (H2.out _).mono ?_)
    rintro e w5 ⟨rfl, b5⟩
    obtain ⟨hc5, hf5⟩ := bcell b5
    have hz5 := hz_of b5
    have B4' := B4.alloc B4.size (.cells #[.int .i64 x, .int .i64 y] 28)
    have B5 := B4'.trans (b5.mono B4'.size)
    have B6 := B5.alloc B5.size (.cells #[.int .i64 x, .int .i64 y] 28)
    go_wp2_with (go_at_call 10; refine (HA.out _ B6).mono ?_)
    rintro e w6 ⟨rfl, b6⟩
    go_wp2
    go_ret
    exact ⟨rfl, B6.trans (b6.mono B6.size)⟩
end Go.Proofs.YtkenkbhafgjlhaaDoor
