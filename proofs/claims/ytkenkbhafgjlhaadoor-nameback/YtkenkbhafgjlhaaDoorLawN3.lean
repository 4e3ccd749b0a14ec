/-
  Walks of layer 3's statements: NameBack, NameOnce.
-/
import Derived.Test.YtkenkbhafgjlhaaDoorLawN1
namespace Go.Proofs.YtkenkbhafgjlhaaDoor
open Go.RowKit

theorem ba_of {s : ByteArray} {l : List UInt8} (h : l = s.data.toList) : (⟨l.toArray⟩ : ByteArray) = s := by rw [h]

set_option maxHeartbeats 1000000 in
theorem back_walk (k : Int) (_k0 : -9223372036854775808 ≤ k) (_k1 : k ≤ 9223372036854775807) (s : ByteArray) (hs : s.size ≤ maxLen) (g : Int) (_g0 : -9223372036854775808 ≤ g) (_g1 : g ≤ 9223372036854775807) (n : Int) (_n0 : -9223372036854775808 ≤ n) (_n1 : n ≤ 9223372036854775807) (w : World) (htab : Lib.TabIs Tryd.prog w "internal/strconv.uint64pow10" .u64 Lib.pow10Tab) :
    Calls Tryd.prog 7 #[.int .i64 k, .string s, .agg #[.int .i64 g, .int .i64 n]] w fun e w' => e = .returned (.bool true) ∧ Below w.heap.size w w' := by
  have b0 := below_alloc1 w (.cells #[.int .i64 g, .int .i64 n] 28)
  have HA : Hid (∀ W, Below w.heap.size w W → Calls Tryd.prog 10 #[] W fun e w' => e = .returned (.bool true) ∧ Below W.heap.size W w') := fun W hW => awake_any W (tab_below htab hW)
  have H1 : Hid (∀ W, Below w.heap.size w W → Calls Tryd.prog 19 #[.int .i64 k, .string s, .agg #[.int .i64 g, .int .i64 n]] W fun e w' => e = .returned (.tuple #[.string ⟨(Nam.file k s.data.toList g n).1.toArray⟩, .int .i64 (Nam.file k s.data.toList g n).2]) ∧ Below W.heap.size W w') := fun W hW => file_any k s g n W hs (tab_below htab hW)
  by_cases hb : 3000 < s.size
  · have HL1 : Hid (Calls Tryd.prog 9 #[.slice (some ⟨w.heap.size + 1, 0, none⟩) 1 1] ((w.alloc (.cells #[.int .i64 g, .int .i64 n] 28)).alloc (.cells #[.string s] 9)) fun e w' => e = .returned (.bool true) ∧ Below (w.alloc (.cells #[.int .i64 g, .int .i64 n] 28)).heap.size (w.alloc (.cells #[.int .i64 g, .int .i64 n] 28)) w') := long_boxed s w _ true (decide_eq_true hb)
    clear hb htab hs H1
    go_enter Tryd.func7, Tryd.ntmps7
    go_wp2_with (go_at_call 9; refine HL1.out.mono ?_)
    rintro e w1 ⟨rfl, b1⟩
    have B1 := b0.trans (b1.mono b0.size)
    go_wp2_with (go_at_call 10; refine (HA.out _ B1).mono ?_)
    rintro e w2 ⟨rfl, b2⟩
    go_wp2
    go_ret
    exact ⟨rfl, B1.trans (b2.mono B1.size)⟩
  · have HL1 : Hid (Calls Tryd.prog 9 #[.slice (some ⟨w.heap.size + 1, 0, none⟩) 1 1] ((w.alloc (.cells #[.int .i64 g, .int .i64 n] 28)).alloc (.cells #[.string s] 9)) fun e w' => e = .returned (.bool false) ∧ Below (w.alloc (.cells #[.int .i64 g, .int .i64 n] 28)).heap.size (w.alloc (.cells #[.int .i64 g, .int .i64 n] 28)) w') := long_boxed s w _ false (decide_eq_false hb)
    have hcase : (Nam.file k s.data.toList g n = ([], 1) ∨ Nam.file k s.data.toList g n = ([], 11)) ∨ (Nam.fk k = true ∧ Nam.system s.data.toList = true ∧ Nam.may g n = true) := by
      cases hk : Nam.fk k with
      | false => exact Or.inl (Or.inl (Nam.file_kind hk))
      | true =>
        cases hy : Nam.system s.data.toList with
        | false => exact Or.inl (Or.inr (Nam.file_sys hk hy))
        | true =>
          cases hm : Nam.may g n with
          | false => exact Or.inl (Or.inl (Nam.file_id hk hy hm))
          | true => exact Or.inr ⟨rfl, rfl, rfl⟩
    rcases hcase with hf | ⟨hk, hy, hm⟩
    · rcases hf with hf | hf
      all_goals
        rw [hf] at H1
        clear hb hf htab hs
        go_enter Tryd.func7, Tryd.ntmps7
        go_wp2_with (go_at_call 9; refine HL1.out.mono ?_; rintro e w1 ⟨rfl, b1⟩; obtain ⟨hc1, hf1⟩ := bcell b1)
        have B1 := b0.trans (b1.mono b0.size)
        go_wp2_with (go_at_call 19; refine (H1.out _ B1).mono ?_)
        rintro e w2 ⟨rfl, b2⟩
        have B2 := B1.trans (b2.mono B1.size)
        go_wp2_with (go_at_call 10; refine (HA.out _ B2).mono ?_)
        rintro e w3 ⟨rfl, b3⟩
        go_wp2
        go_ret
        exact ⟨rfl, B2.trans (b3.mono B2.size)⟩
    · have hf := Nam.file_ok (k := k) (s := s.data.toList) (g := g) (n := n) hk hy hm
      rw [hf] at H1
      have hpf := Nam.pfile_file hk hy hm
      have hpi := Nam.pid_id hm
      have l16 := Nam.fileT_len (k := k) hy hm
      have l6 := idT_len hm
      have H2 : Hid (∀ W, Calls Tryd.prog 23 #[.string ⟨(Nam.fileT k s.data.toList g n).toArray⟩] W fun e w' => e = .returned (.tuple #[.int .i64 k, .string s, .agg #[.int .i64 g, .int .i64 n], .int .i64 0]) ∧ Below W.heap.size W w') := fun W => by
        have h := parseFile_any ⟨(Nam.fileT k s.data.toList g n).toArray⟩ W (by show (Nam.fileT k s.data.toList g n).length ≤ _; unfold maxLen; omega)
        rw [show (⟨(Nam.fileT k s.data.toList g n).toArray⟩ : ByteArray).data.toList = Nam.fileT k s.data.toList g n from rfl, hpf] at h
        exact h
      have H3 : Hid (∀ W, Below w.heap.size w W → Calls Tryd.prog 15 #[.agg #[.int .i64 g, .int .i64 n]] W fun e w' => e = .returned (.tuple #[.string ⟨(Nam.idT g n).toArray⟩, .int .i64 0]) ∧ Below W.heap.size W w') := fun W hW => id_yes g n W hm (tab_below htab hW)
      have H4 : Hid (∀ W, Calls Tryd.prog 17 #[.string ⟨(Nam.idT g n).toArray⟩] W fun e w' => e = .returned (.tuple #[.agg #[.int .i64 g, .int .i64 n], .int .i64 0]) ∧ Below W.heap.size W w') := fun W => by
        have h := parseId_list (Nam.idT g n) W (by unfold maxLen; omega)
        rw [hpi] at h
        exact h
      generalize Nam.fileT k s.data.toList g n = F at *
      generalize Nam.idT g n = D at *
      clear hb hf hpf hpi htab hs hk hy hm l6
      go_enter Tryd.func7, Tryd.ntmps7
      go_wp2_with (go_at_call 9; refine HL1.out.mono ?_; rintro e w1 ⟨rfl, b1⟩; obtain ⟨hc1, hf1⟩ := bcell b1)
      have B1 := b0.trans (b1.mono b0.size)
      go_wp2_with (go_at_call 19; refine (H1.out _ B1).mono ?_)
      rintro e w2 ⟨rfl, b2⟩
      have c2 := b1.trans (b2.mono b1.size)
      clear hc1 hf1 b2 B1 b1
      go_wp2_with (go_at_call 23; refine (H2.out _).mono ?_)
      rintro e w3 ⟨rfl, b3⟩
      have c3 := c2.trans (b3.mono c2.size)
      clear c2 b3
      obtain ⟨hc3, hf3⟩ := bcell c3
      have hz3 := hz_of c3
      have c3' := c3.alloc c3.size (.cells #[.int .i64 g, .int .i64 n] 28)
      have B3' := b0.trans (c3'.mono b0.size)
      go_wp2_with (go_at_call 15; refine (H3.out _ B3').mono ?_)
      rintro e w4 ⟨rfl, b4⟩
      go_wp2_with (go_at_call 17; refine (H4.out _).mono ?_)
      rintro e w5 ⟨rfl, b5⟩
      have c5 := b4.trans (b5.mono b4.size)
      clear b4 b5
      obtain ⟨hc5, hf5⟩ := bcell c5
      have hz5 := hz_of c5
      have hz6 : w.heap.size < w5.heap.size := Nat.lt_trans hz3 hz5
      have B5 := B3'.trans (c5.mono B3'.size)
      have B6 := B5.alloc B5.size (.cells #[.int .i64 g, .int .i64 n] 28)
      go_wp2_with (go_at_call 10; refine (HA.out _ B6).mono ?_)
      rintro e w6 ⟨rfl, b6⟩
      go_wp2
      go_ret
      exact ⟨rfl, B6.trans (b6.mono B6.size)⟩
end Go.Proofs.YtkenkbhafgjlhaaDoor
