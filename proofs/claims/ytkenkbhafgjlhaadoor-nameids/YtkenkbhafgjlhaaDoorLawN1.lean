/-
  Walks of layer 3's statements: NameSystems, NameIds, NameFiles, NameReads.
-/
import Derived.Test.YtkenkbhafgjlhaaDoorNam9
import Derived.Test.YtkenkbhafgjlhaaDoorLong3
import Derived.Test.YtkenkbhafgjlhaaDoorAwkN
namespace Go.Proofs.YtkenkbhafgjlhaaDoor
open Go.RowKit

theorem long_boxed (s : ByteArray) (w : World) (a : Obj) (L : Bool) (hL : decide (3000 < s.size) = L) :
    Calls Tryd.prog 9 #[.slice (some ⟨w.heap.size + 1, 0, none⟩) 1 1] ((w.alloc a).alloc (.cells #[.string s] 9)) fun e w' => e = .returned (.bool L) ∧ Below (w.alloc a).heap.size (w.alloc a) w' := by
  have h := long_one s (w.alloc a) L hL
  have e : (w.alloc a).heap.size = w.heap.size + 1 := by simp
  rw [e] at h ⊢; exact h

set_option maxHeartbeats 1000000 in
theorem systems_walk (s : ByteArray) (hs : s.size ≤ maxLen) (g : Int) (_h0 : -9223372036854775808 ≤ g) (_h1 : g ≤ 9223372036854775807) (w : World) (htab : Lib.TabIs Tryd.prog w "internal/strconv.uint64pow10" .u64 Lib.pow10Tab) :
    Calls Tryd.prog 3 #[.string s, .int .i64 g] w fun e w' => e = .returned (.bool true) ∧ Below w.heap.size w w' := by
  have HL := fun w L hL => long_one s w L hL
  have HA : Hid (∀ W, Below w.heap.size w W → Calls Tryd.prog 10 #[] W fun e w' => e = .returned (.bool true) ∧ Below W.heap.size W w') := fun W hW => awake_any W (tab_below htab hW)
  clear htab
  by_cases hb : 3000 < s.size
  · have HL1 : Hid (∀ w : World, Calls Tryd.prog 9 #[.slice (some ⟨w.heap.size, 0, none⟩) 1 1] (w.alloc (.cells #[.string s] 9)) fun e w' => e = .returned (.bool true) ∧ Below w.heap.size w w') := fun w => HL w true (decide_eq_true hb)
    clear HL hb
    go_enter Tryd.func3, Tryd.ntmps3
    go_wp2_with (go_at_call 9; refine (HL1.out w).mono ?_)
    rintro e w1 ⟨rfl, b1⟩
    go_wp2_with (go_at_call 10; refine (HA.out _ b1).mono ?_)
    rintro e w2 ⟨rfl, b2⟩
    go_wp2
    go_ret
    exact ⟨rfl, b1.trans (b2.mono b1.size)⟩
  · have HL1 : Hid (∀ w : World, Calls Tryd.prog 9 #[.slice (some ⟨w.heap.size, 0, none⟩) 1 1] (w.alloc (.cells #[.string s] 9)) fun e w' => e = .returned (.bool false) ∧ Below w.heap.size w w') := fun w => HL w false (decide_eq_false hb)
    have H1 : Hid (∀ w : World, Calls Tryd.prog 11 #[.string s] w fun e w' => e = .returned (.bool (Nam.system s.data.toList)) ∧ w' = w) := fun w => system_any s w hs
    have H2 : Hid (∀ w : World, Calls Tryd.prog 12 #[.string s] w fun e w' => e = .returned (.bool (Nam.system s.data.toList)) ∧ w' = w) := fun w => refSystem_any s w hs
    have H3 : Hid (∀ w : World, Calls Tryd.prog 13 #[.int .i64 g] w fun e w' => e = .returned (.bool (Nam.grade g)) ∧ w' = w) := fun w => grade_any g w
    have H4 : Hid (∀ w : World, Calls Tryd.prog 14 #[.int .i64 g] w fun e w' => e = .returned (.bool (Nam.grade g)) ∧ w' = w) := fun w => refGrade_any g w
    generalize Nam.system s.data.toList = x at *
    generalize Nam.grade g = y at *
    clear HL hb
    go_enter Tryd.func3, Tryd.ntmps3
    go_wp2_with (go_at_call 9; refine (HL1.out w).mono ?_)
    rintro e w1 ⟨rfl, b1⟩
    go_wp2_with (go_at_call 9; refine (HL1.out w1).mono ?_)
    rintro e w2 ⟨rfl, b2⟩
    have B2 := b1.trans (b2.mono b1.size)
    go_wp2_with (go_at_call 11; refine (H1.out _).mono ?_)
    rintro e w3 ⟨rfl, rfl⟩
    go_wp2_with (go_at_call 12; refine (H2.out _).mono ?_)
    rintro e w4 ⟨rfl, rfl⟩
    go_wp2_with (go_at_call 13; refine (H3.out _).mono ?_)
    rintro e w3 ⟨rfl, rfl⟩
    go_wp2_with (go_at_call 14; refine (H4.out _).mono ?_)
    rintro e w4 ⟨rfl, rfl⟩
    go_wp2_with (go_at_call 10; refine (HA.out _ B2).mono ?_)
    rintro e w5 ⟨rfl, b5⟩
    go_wp2
    go_ret
    exact ⟨rfl, B2.trans (b5.mono B2.size)⟩

set_option maxHeartbeats 1000000 in
theorem ids_walk (g : Int) (_g0 : -9223372036854775808 ≤ g) (_g1 : g ≤ 9223372036854775807) (n : Int) (_n0 : -9223372036854775808 ≤ n) (_n1 : n ≤ 9223372036854775807) (s : ByteArray) (hs : s.size ≤ maxLen) (w : World) (htab : Lib.TabIs Tryd.prog w "internal/strconv.uint64pow10" .u64 Lib.pow10Tab) :
    Calls Tryd.prog 4 #[.agg #[.int .i64 g, .int .i64 n], .string s] w fun e w' => e = .returned (.bool true) ∧ Below w.heap.size w w' := by
  have b0 := below_alloc1 w (.cells #[.int .i64 g, .int .i64 n] 28)
  have HA : Hid (∀ W, Below w.heap.size w W → Calls Tryd.prog 10 #[] W fun e w' => e = .returned (.bool true) ∧ Below W.heap.size W w') := fun W hW => awake_any W (tab_below htab hW)
  have H1 : Hid (∀ W, Below w.heap.size w W → Calls Tryd.prog 15 #[.agg #[.int .i64 g, .int .i64 n]] W fun e w' => e = .returned (.tuple #[.string ⟨(Nam.id g n).1.toArray⟩, .int .i64 (Nam.id g n).2]) ∧ Below W.heap.size W w') := fun W hW => id_any g n W (tab_below htab hW)
  have H2 : Hid (∀ W, Calls Tryd.prog 16 #[.agg #[.int .i64 g, .int .i64 n]] W fun e w' => e = .returned (.tuple #[.string ⟨(Nam.id g n).1.toArray⟩, .int .i64 (Nam.id g n).2]) ∧ Below W.heap.size W w') := fun W => refId_any g n W
  have H3 : Hid (∀ W, Calls Tryd.prog 17 #[.string s] W fun e w' => e = .returned (.tuple #[.agg #[.int .i64 (Nam.pid s.data.toList).1, .int .i64 (Nam.pid s.data.toList).2.1], .int .i64 (Nam.pid s.data.toList).2.2]) ∧ Below W.heap.size W w') := fun W => parseId_any s W hs
  have H4 : Hid (∀ W, Calls Tryd.prog 18 #[.string s] W fun e w' => e = .returned (.tuple #[.agg #[.int .i64 (Nam.pid s.data.toList).1, .int .i64 (Nam.pid s.data.toList).2.1], .int .i64 (Nam.pid s.data.toList).2.2]) ∧ Below W.heap.size W w') := fun W => refParseId_any s W hs
  generalize (Nam.id g n).1 = A at *
  generalize (Nam.id g n).2 = E at *
  generalize Nam.pid s.data.toList = X at *
  obtain ⟨x, y, z⟩ := X
  dsimp only at H3 H4
  clear htab hs
  by_cases hb : 3000 < s.size
  · have HL1 : Hid (Calls Tryd.prog 9 #[.slice (some ⟨w.heap.size + 1, 0, none⟩) 1 1] ((w.alloc (.cells #[.int .i64 g, .int .i64 n] 28)).alloc (.cells #[.string s] 9)) fun e w' => e = .returned (.bool true) ∧ Below (w.alloc (.cells #[.int .i64 g, .int .i64 n] 28)).heap.size (w.alloc (.cells #[.int .i64 g, .int .i64 n] 28)) w') := long_boxed s w _ true (decide_eq_true hb)
    clear hb
    go_enter Tryd.func4, Tryd.ntmps4
    go_wp2_with (go_at_call 9; refine HL1.out.mono ?_)
    rintro e w1 ⟨rfl, b1⟩
    have B1 := b0.trans (b1.mono b0.size)
    go_wp2_with (go_at_call 10; refine (HA.out _ B1).mono ?_)
    rintro e w2 ⟨rfl, b2⟩
    go_wp2
    go_ret
    exact ⟨rfl, B1.trans (b2.mono B1.size)⟩
  · have HL1 : Hid (Calls Tryd.prog 9 #[.slice (some ⟨w.heap.size + 1, 0, none⟩) 1 1] ((w.alloc (.cells #[.int .i64 g, .int .i64 n] 28)).alloc (.cells #[.string s] 9)) fun e w' => e = .returned (.bool false) ∧ Below (w.alloc (.cells #[.int .i64 g, .int .i64 n] 28)).heap.size (w.alloc (.cells #[.int .i64 g, .int .i64 n] 28)) w') := long_boxed s w _ false (decide_eq_false hb)
    clear hb
    go_enter Tryd.func4, Tryd.ntmps4
    go_wp2_with (go_at_call 9; refine HL1.out.mono ?_)
    rintro e w1 ⟨rfl, b1⟩
    have B1 := b0.trans (b1.mono b0.size)
    obtain ⟨hc1, hf1⟩ := bcell b1
    go_wp2_with (go_at_call 15; refine (H1.out _ B1).mono ?_)
    rintro e w2 ⟨rfl, b2⟩
    have c2 := b1.trans (b2.mono b1.size)
    clear hc1 hf1 B1 b1 b2
    obtain ⟨hc2, hf2⟩ := bcell c2
    go_wp2_with (go_at_call 16; refine (H2.out _).mono ?_)
    rintro e w3 ⟨rfl, b3⟩
    have c3 := c2.trans (b3.mono c2.size)
    clear hc2 hf2 c2 b3
    go_wp2_with (go_at_call 17; refine (H3.out _).mono ?_)
    rintro e w4 ⟨rfl, b4⟩
    have B4 := b0.trans ((c3.trans (b4.mono c3.size)).mono b0.size)
    clear c3 b4
    go_wp2_with (go_at_call 18; refine (H4.out _).mono ?_)
    rintro e w5 ⟨rfl, b5⟩
    obtain ⟨hc5, hf5⟩ := bcell b5
    have hz5 := hz_of b5
    have B4' := B4.alloc B4.size (.cells #[.int .i64 x, .int .i64 y] 28)
    have B5 := B4'.trans (b5.mono B4'.size)
    have B6 := B5.alloc B5.size (.cells #[.int .i64 x, .int .i64 y] 28)
    go_wp2_with (go_at_call 10; refine (HA.out _ B6).mono ?_)
    rintro e w6 ⟨rfl, b6⟩
    go_wp2
    go_ret
    exact ⟨rfl, B6.trans (b6.mono B6.size)⟩
end Go.Proofs.YtkenkbhafgjlhaaDoor
