/-
  Walks of two of layer 1's statements: OctetOnce, OctetBack.
-/
import Derived.Test.YtakgmpebgaiinaaDoorLaws2
namespace Go.Proofs.YtakgmpebgaiinaaDoor
open Go.RowKit

theorem s_of_list (s : ByteArray) : s = ⟨s.data.toList.toArray⟩ := by cases s; simp

set_option maxHeartbeats 1000000 in
theorem once_walk (s : ByteArray) (hs : s.size ≤ maxLen)
    (w : World) (htab : Lib.TabIs Tryd.prog w "internal/strconv.uint64pow10" .u64 Lib.pow10Tab) :
    Calls Tryd.prog 8 #[.string s] w fun e w' => e = .returned (.bool true) ∧ Below w.heap.size w w' := by
  have b0 : Below w.heap.size w (w.alloc (.cells #[.string s] 9)) := (Below.refl _ w).alloc (Nat.le_refl _) _
  have HT : Hid (Lib.TabIs Tryd.prog (w.alloc (.cells #[.string s] 9)) "internal/strconv.uint64pow10" .u64 Lib.pow10Tab) := tab_below htab b0
  clear htab
  have HL : ∀ L, L = decide (3000 < s.size) → _ := long_any s w.heap.size (w.alloc (.cells #[.string s] 9)) hs (by rw [Lib.cell_of_heap (MapKept.heap_alloc w _).1 0]; rfl)
  by_cases h3 : 3000 < s.size
  · have HL1 := HL true (decide_eq_true h3).symm
    clear HL h3
    go_enter Tryd.func8, Tryd.ntmps8
    go_wp2_with (go_at_call 9; refine HL1.mono ?_)
    rintro e w1 ⟨rfl, rfl⟩
    go_wp2_with (go_at_call 10; refine (awake_any _ HT.out).mono ?_)
    rintro e w2 ⟨rfl, b2⟩
    go_wp2
    go_ret
    exact ⟨rfl, b0.trans (b2.mono b0.size)⟩
  · have HL1 := HL false (decide_eq_false h3).symm
    have hs' : s.size ≤ 3000 := by omega
    have hlen := Oct.len_eq s
    have HN := number_any s (w.alloc (.cells #[.string s] 9)) hs
    have HU1 := fun w t => unquote_tuple s w (by omega) t
    have HU2 := fun w => unquote_not s w (by omega)
    have hsl := s_of_list s
    generalize s.data.toList = l at *
    have hl3 : l.length ≤ 3000 := by omega
    clear HL h3 hs hs' hlen
    subst hsl
    cases hn : Oct.number l with
    | mk v er =>
    rw [hn] at HN
    by_cases her : er = 0
    · subst her
      have HN0 : Calls Tryd.prog 11 #[.string ⟨l.toArray⟩] (w.alloc (.cells #[.string ⟨l.toArray⟩] 9)) fun e w' => e = .returned (.tuple #[.int .i64 (v : Int), .int .i64 0]) ∧ w' = w.alloc (.cells #[.string ⟨l.toArray⟩] 9) := HN
      clear HN
      have hb := Oct.number_back (l := l) (by rw [hn])
      rw [hn] at hb
      have hv : v ≤ 1099511627776 := hb.2
      have HX := text_any (v : Int) (w.alloc (.cells #[.string ⟨l.toArray⟩] 9)) (by omega) (by omega) HT.out
      rw [hb.1] at HX
      clear hn hb
      cases hu : Oct.unquote l with
      | some t =>
        have H1 := fun w => HU1 w t hu
        have hq := Oct.quote_unquote hu
        have hge := Oct.quote_ge t
        have H2 := fun w => quote_any ⟨t.toArray⟩ w (by show t.length ≤ _; rw [hq] at hge; omega)
        have hqd : Oct.quote (⟨t.toArray⟩ : ByteArray).data.toList = l := hq
        rw [hqd] at H2
        have H1' : Hid _ := H1
        have H2' : Hid _ := H2
        clear H1 H2 hu hq hge hqd HU1 HU2
        go_enter Tryd.func8, Tryd.ntmps8
        go_wp2_with (go_at_call 9; refine HL1.mono ?_)
        rintro e w1 ⟨rfl, rfl⟩
        go_wp2_with (go_at_call 11; refine HN0.mono ?_)
        rintro e w1 ⟨rfl, rfl⟩
        go_wp2_with (go_at_call 13; refine HX.mono ?_)
        rintro e w1 ⟨rfl, b1⟩
        go_wp2_with (go_at_call 21; refine (H1'.out _).mono ?_)
        rintro e w2 ⟨rfl, b2⟩
        go_wp2_with (go_at_call 23; refine (H2'.out _).mono ?_)
        rintro e w3 ⟨rfl, b3⟩
        have B2 := b1.trans (b2.mono b1.size)
        have B3 := B2.trans (b3.mono B2.size)
        go_wp2_with (go_at_call 10; refine (awake_any _ (tab_below HT.out B3)).mono ?_)
        rintro e w4 ⟨rfl, b4⟩
        go_wp2
        go_ret
        have B4 := B3.trans (b4.mono B3.size)
        exact ⟨rfl, b0.trans (B4.mono b0.size)⟩
      | none =>
        have H1 := fun w => HU2 w hu
        have H1' : Hid _ := H1
        clear H1 hu HU1 HU2
        go_enter Tryd.func8, Tryd.ntmps8
        go_wp2_with (go_at_call 9; refine HL1.mono ?_)
        rintro e w1 ⟨rfl, rfl⟩
        go_wp2_with (go_at_call 11; refine HN0.mono ?_)
        rintro e w1 ⟨rfl, rfl⟩
        go_wp2_with (go_at_call 13; refine HX.mono ?_)
        rintro e w1 ⟨rfl, b1⟩
        go_wp2_with (go_at_call 21; refine (H1'.out _).mono ?_)
        rintro e w2 ⟨rfl, b2⟩
        have B2 := b1.trans (b2.mono b1.size)
        go_wp2_with (go_at_call 10; refine (awake_any _ (tab_below HT.out B2)).mono ?_)
        rintro e w4 ⟨rfl, b4⟩
        go_wp2
        go_ret
        have B4 := B2.trans (b4.mono B2.size)
        exact ⟨rfl, b0.trans (B4.mono b0.size)⟩
    · have hd : ((er : Int) == 0) = false := by rw [beq_eq_false_iff_ne]; omega
      have HN0 : Calls Tryd.prog 11 #[.string ⟨l.toArray⟩] (w.alloc (.cells #[.string ⟨l.toArray⟩] 9)) fun e w' => e = .returned (.tuple #[.int .i64 (v : Int), .int .i64 (er : Int)]) ∧ w' = w.alloc (.cells #[.string ⟨l.toArray⟩] 9) := HN
      clear HN
      clear hn her
      cases hu : Oct.unquote l with
      | some t =>
        have H1 := fun w => HU1 w t hu
        have hq := Oct.quote_unquote hu
        have hge := Oct.quote_ge t
        have H2 := fun w => quote_any ⟨t.toArray⟩ w (by show t.length ≤ _; rw [hq] at hge; omega)
        have hqd : Oct.quote (⟨t.toArray⟩ : ByteArray).data.toList = l := hq
        rw [hqd] at H2
        have H1' : Hid _ := H1
        have H2' : Hid _ := H2
        clear H1 H2 hu hq hge hqd HU1 HU2
        go_enter Tryd.func8, Tryd.ntmps8
        go_wp2_with (go_at_call 9; refine HL1.mono ?_)
        rintro e w1 ⟨rfl, rfl⟩
        go_wp2_with (go_at_call 11; refine HN0.mono ?_)
        rintro e w1 ⟨rfl, rfl⟩
        go_wp2_with (go_at_call 21; refine (H1'.out _).mono ?_)
        rintro e w2 ⟨rfl, b2⟩
        go_wp2_with (go_at_call 23; refine (H2'.out _).mono ?_)
        rintro e w3 ⟨rfl, b3⟩
        have B3 := b2.trans (b3.mono b2.size)
        go_wp2_with (go_at_call 10; refine (awake_any _ (tab_below HT.out B3)).mono ?_)
        rintro e w4 ⟨rfl, b4⟩
        go_wp2
        go_ret
        have B4 := B3.trans (b4.mono B3.size)
        exact ⟨rfl, b0.trans (B4.mono b0.size)⟩
      | none =>
        have H1 := fun w => HU2 w hu
        have H1' : Hid _ := H1
        clear H1 hu HU1 HU2
        go_enter Tryd.func8, Tryd.ntmps8
        go_wp2_with (go_at_call 9; refine HL1.mono ?_)
        rintro e w1 ⟨rfl, rfl⟩
        go_wp2_with (go_at_call 11; refine HN0.mono ?_)
        rintro e w1 ⟨rfl, rfl⟩
        go_wp2_with (go_at_call 21; refine (H1'.out _).mono ?_)
        rintro e w2 ⟨rfl, b2⟩
        go_wp2_with (go_at_call 10; refine (awake_any _ (tab_below HT.out b2)).mono ?_)
        rintro e w4 ⟨rfl, b4⟩
        go_wp2
        go_ret
        have B4 := b2.trans (b4.mono b2.size)
        exact ⟨rfl, b0.trans (B4.mono b0.size)⟩
end Go.Proofs.YtakgmpebgaiinaaDoor
