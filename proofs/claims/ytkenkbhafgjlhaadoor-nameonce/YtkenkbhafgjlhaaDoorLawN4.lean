/-
  Walk of layer 3's statement NameOnce.
-/
import Derived.Test.YtkenkbhafgjlhaaDoorLawN1
namespace Go.Proofs.YtkenkbhafgjlhaaDoor
open Go.RowKit

theorem ba_eq {s : ByteArray} {l : List UInt8} (h : l = s.data.toList) : (⟨l.toArray⟩ : ByteArray) = s := by rw [h]

set_option maxHeartbeats 1000000 in
theorem once_walk (s : ByteArray) (hs : s.size ≤ maxLen) (w : World) (htab : Lib.TabIs Tryd.prog w "internal/strconv.uint64pow10" .u64 Lib.pow10Tab) :
    Calls Tryd.prog 8 #[.string s] w fun e w' => e = .returned (.bool true) ∧ Below w.heap.size w w' := by
  have HL := fun w L hL => long_one s w L hL
  have HA : Hid (∀ W, Below w.heap.size w W → Calls Tryd.prog 10 #[] W fun e w' => e = .returned (.bool true) ∧ Below W.heap.size W w') := fun W hW => awake_any W (tab_below htab hW)
  have H1 : Hid (∀ W, Calls Tryd.prog 23 #[.string s] W fun e w' => e = .returned (.tuple #[.int .i64 (Nam.pfile s.data.toList).1, .string ⟨(Nam.pfile s.data.toList).2.1.toArray⟩, .agg #[.int .i64 (Nam.pfile s.data.toList).2.2.1, .int .i64 (Nam.pfile s.data.toList).2.2.2.1], .int .i64 (Nam.pfile s.data.toList).2.2.2.2]) ∧ Below W.heap.size W w') := fun W => parseFile_any s W hs
  have H5 : Hid (∀ W, Calls Tryd.prog 17 #[.string s] W fun e w' => e = .returned (.tuple #[.agg #[.int .i64 (Nam.pid s.data.toList).1, .int .i64 (Nam.pid s.data.toList).2.1], .int .i64 (Nam.pid s.data.toList).2.2]) ∧ Below W.heap.size W w') := fun W => parseId_any s W hs
  by_cases hb : 3000 < s.size
  · have HL1 : Hid (∀ w : World, Calls Tryd.prog 9 #[.slice (some ⟨w.heap.size, 0, none⟩) 1 1] (w.alloc (.cells #[.string s] 9)) fun e w' => e = .returned (.bool true) ∧ Below w.heap.size w w') := fun w => HL w true (decide_eq_true hb)
    clear HL hb htab hs H1 H5
    go_enter Tryd.func8, Tryd.ntmps8
    go_wp2_with (go_at_call 9; refine (HL1.out w).mono ?_; rintro e w1 ⟨rfl, b1⟩)
    go_wp2_with (go_at_call 10; refine (HA.out _ b1).mono ?_)
    rintro e w2 ⟨rfl, b2⟩
    go_wp2
    go_ret
    exact ⟨rfl, b1.trans (b2.mono b1.size)⟩
  have HL1 : Hid (∀ w : World, Calls Tryd.prog 9 #[.slice (some ⟨w.heap.size, 0, none⟩) 1 1] (w.alloc (.cells #[.string s] 9)) fun e w' => e = .returned (.bool false) ∧ Below w.heap.size w w') := fun w => HL w false (decide_eq_false hb)
  clear HL hb
  have hF := Nam.pfile_fail s.data.toList
  have hI := Nam.pid_fail s.data.toList
  have hF2 := Nam.file_pfile (l := s.data.toList)
  have hI2 := Nam.id_pid (l := s.data.toList)
  have hln := Oct.len_eq s
  generalize hXg : Nam.pfile s.data.toList = X at *
  generalize hYg : Nam.pid s.data.toList = Y at *
  clear hXg hYg
  obtain ⟨k, t, x, y, z⟩ := X
  obtain ⟨p, q, r⟩ := Y
  dsimp only at H1 H5 hF hI hF2 hI2
  rcases hF with hz | hz
  · subst hz
    obtain ⟨hk, hy, hm, hl⟩ := hF2 rfl
    have hg := (Nam.may_iff.1 hm).1
    have h7 := (Nam.system_len hy).2
    have H2 : Hid (∀ W, Below w.heap.size w W → Calls Tryd.prog 19 #[.int .i64 k, .string ⟨t.toArray⟩, .agg #[.int .i64 x, .int .i64 y]] W fun e w' => e = .returned (.tuple #[.string s, .int .i64 0]) ∧ Below W.heap.size W w') := fun W hW => by
      have h := file_any k ⟨t.toArray⟩ x y W (by show t.length ≤ _; unfold maxLen; omega) (tab_below htab hW)
      rw [show (⟨t.toArray⟩ : ByteArray).data.toList = t from rfl, Nam.file_ok hk hy hm] at h
      rw [ba_eq hl] at h; exact h
    have H3 : Hid (∀ W, Calls Tryd.prog 11 #[.string ⟨t.toArray⟩] W fun e w' => e = .returned (.bool true) ∧ w' = W) := fun W => by
      have h := system_list t W (by unfold maxLen; omega)
      rw [hy] at h; exact h
    have H4 : Hid (∀ W, Calls Tryd.prog 13 #[.int .i64 x] W fun e w' => e = .returned (.bool true) ∧ w' = W) := fun W => by
      have h := grade_any x W
      rw [hg] at h; exact h
    rcases hI with hr | hr
    · subst hr
      obtain ⟨hm', hl'⟩ := hI2 rfl
      have H6 : Hid (∀ W, Below w.heap.size w W → Calls Tryd.prog 15 #[.agg #[.int .i64 p, .int .i64 q]] W fun e w' => e = .returned (.tuple #[.string s, .int .i64 0]) ∧ Below W.heap.size W w') := fun W hW => by
        have h := id_yes p q W hm' (tab_below htab hW)
        rw [ba_eq hl'] at h; exact h
      clear htab hs hF2 hI2 hln hk hy hm hl hg h7 hm' hl'
      go_enter Tryd.func8, Tryd.ntmps8
      go_wp2_with (go_at_call 9; refine (HL1.out w).mono ?_; rintro e w1 ⟨rfl, b1⟩)
      go_wp2_with (go_at_call 23; refine (H1.out _).mono ?_; rintro e w2 ⟨rfl, b2⟩)
      have B2 := b1.trans (b2.mono b1.size)
      have B2' := B2.alloc B2.size (.cells #[.int .i64 x, .int .i64 y] 28)
      go_wp2_with (go_at_call 19; refine (H2.out _ B2').mono ?_; rintro e w3 ⟨rfl, b3⟩; obtain ⟨hc3, hf3⟩ := bcell b3)
      have BB := B2'.trans (b3.mono B2'.size)
      go_wp2_with (go_at_call 11; refine (H3.out _).mono ?_; rintro e w4 ⟨rfl, rfl⟩)
      go_wp2_with (go_at_call 13; refine (H4.out _).mono ?_; rintro e w4 ⟨rfl, rfl⟩)
      go_wp2_with (go_at_call 17; refine (H5.out _).mono ?_; rintro e w5 ⟨rfl, b5⟩)
      have B5 := BB.trans (b5.mono BB.size)
      have B5' := B5.alloc B5.size (.cells #[.int .i64 p, .int .i64 q] 28)
      go_wp2_with (go_at_call 15; refine (H6.out _ B5').mono ?_; rintro e w6 ⟨rfl, b6⟩)
      have B6 := B5'.trans (b6.mono B5'.size)
      go_wp2_with (go_at_call 10; refine (HA.out _ B6).mono ?_; rintro e w7 ⟨rfl, b7⟩)
      go_ret
      exact ⟨rfl, B6.trans (b7.mono B6.size)⟩
    · obtain ⟨rfl, rfl, rfl⟩ : p = 0 ∧ q = 0 ∧ r = 3 := by simpa using hr
      clear htab hs hF2 hI2 hln hk hy hm hl hg h7 hr
      go_enter Tryd.func8, Tryd.ntmps8
      go_wp2_with (go_at_call 9; refine (HL1.out w).mono ?_; rintro e w1 ⟨rfl, b1⟩)
      go_wp2_with (go_at_call 23; refine (H1.out _).mono ?_; rintro e w2 ⟨rfl, b2⟩)
      have B2 := b1.trans (b2.mono b1.size)
      have B2' := B2.alloc B2.size (.cells #[.int .i64 x, .int .i64 y] 28)
      go_wp2_with (go_at_call 19; refine (H2.out _ B2').mono ?_; rintro e w3 ⟨rfl, b3⟩; obtain ⟨hc3, hf3⟩ := bcell b3)
      have BB := B2'.trans (b3.mono B2'.size)
      go_wp2_with (go_at_call 11; refine (H3.out _).mono ?_; rintro e w4 ⟨rfl, rfl⟩)
      go_wp2_with (go_at_call 13; refine (H4.out _).mono ?_; rintro e w4 ⟨rfl, rfl⟩)
      go_wp2_with (go_at_call 17; refine (H5.out _).mono ?_; rintro e w5 ⟨rfl, b5⟩)
      have B5 := BB.trans (b5.mono BB.size)
      have B6 := B5.alloc B5.size (.cells #[.int .i64 0, .int .i64 0] 28)
      go_wp2_with (go_at_call 10; refine (HA.out _ B6).mono ?_; rintro e w7 ⟨rfl, b7⟩)
      go_ret
      exact ⟨rfl, B6.trans (b7.mono B6.size)⟩
  · obtain ⟨rfl, rfl, rfl, rfl, rfl⟩ : k = 0 ∧ t = [] ∧ x = 0 ∧ y = 0 ∧ z = 3 := by simpa using hz
    rcases hI with hr | hr
    · subst hr
      obtain ⟨hm', hl'⟩ := hI2 rfl
      have H6 : Hid (∀ W, Below w.heap.size w W → Calls Tryd.prog 15 #[.agg #[.int .i64 p, .int .i64 q]] W fun e w' => e = .returned (.tuple #[.string s, .int .i64 0]) ∧ Below W.heap.size W w') := fun W hW => by
        have h := id_yes p q W hm' (tab_below htab hW)
        rw [ba_eq hl'] at h; exact h
      clear htab hs hF2 hI2 hln hm' hl' hz
      go_enter Tryd.func8, Tryd.ntmps8
      go_wp2_with (go_at_call 9; refine (HL1.out w).mono ?_; rintro e w1 ⟨rfl, b1⟩)
      go_wp2_with (go_at_call 23; refine (H1.out _).mono ?_; rintro e w2 ⟨rfl, b2⟩)
      have B2 := b1.trans (b2.mono b1.size)
      have BB := B2.alloc B2.size (.cells #[.int .i64 0, .int .i64 0] 28)
      go_wp2_with (go_at_call 17; refine (H5.out _).mono ?_; rintro e w5 ⟨rfl, b5⟩)
      have B5 := BB.trans (b5.mono BB.size)
      have B5' := B5.alloc B5.size (.cells #[.int .i64 p, .int .i64 q] 28)
      go_wp2_with (go_at_call 15; refine (H6.out _ B5').mono ?_; rintro e w6 ⟨rfl, b6⟩)
      have B6 := B5'.trans (b6.mono B5'.size)
      go_wp2_with (go_at_call 10; refine (HA.out _ B6).mono ?_; rintro e w7 ⟨rfl, b7⟩)
      go_ret
      exact ⟨rfl, B6.trans (b7.mono B6.size)⟩
    · obtain ⟨rfl, rfl, rfl⟩ : p = 0 ∧ q = 0 ∧ r = 3 := by simpa using hr
      clear htab hs hF2 hI2 hln hr hz
      go_enter Tryd.func8, Tryd.ntmps8
      go_wp2_with (go_at_call 9; refine (HL1.out w).mono ?_; rintro e w1 ⟨rfl, b1⟩)
      go_wp2_with (go_at_call 23; refine (H1.out _).mono ?_; rintro e w2 ⟨rfl, b2⟩)
      have B2 := b1.trans (b2.mono b1.size)
      have BB := B2.alloc B2.size (.cells #[.int .i64 0, .int .i64 0] 28)
      go_wp2_with (go_at_call 17; refine (H5.out _).mono ?_; rintro e w5 ⟨rfl, b5⟩)
      have B5 := BB.trans (b5.mono BB.size)
      have B6 := B5.alloc B5.size (.cells #[.int .i64 0, .int .i64 0] 28)
      go_wp2_with (go_at_call 10; refine (HA.out _ B6).mono ?_; rintro e w7 ⟨rfl, b7⟩)
      go_ret
      exact ⟨rfl, B6.trans (b7.mono B6.size)⟩
end Go.Proofs.YtkenkbhafgjlhaaDoor
