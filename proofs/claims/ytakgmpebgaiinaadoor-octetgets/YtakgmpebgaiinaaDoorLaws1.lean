/-
  Walks of three of layer 1's statements: OctetGets, OctetPuts, OctetNumbers.
-/
import Derived.Test.YtakgmpebgaiinaaDoorAwk
namespace Go.Proofs.YtakgmpebgaiinaaDoor
open Go.RowKit

set_option maxHeartbeats 1000000 in
theorem gets_walk (s : ByteArray) (hs : s.size ≤ maxLen) (a : Int) (_ha0 : -9223372036854775808 ≤ a) (ha1 : a ≤ 9223372036854775807) (size : Int) (_hz0 : -9223372036854775808 ≤ size) (_hz1 : size ≤ 9223372036854775807)
    (w : World) (htab : Lib.TabIs Tryd.prog w "internal/strconv.uint64pow10" .u64 Lib.pow10Tab) :
    Calls Tryd.prog 5 #[.string s, .int .i64 a, .int .i64 size] w fun e w' => e = .returned (.bool true) ∧ Below w.heap.size w w' := by
  have b0 : Below w.heap.size w (w.alloc (.cells #[.string s] 9)) := (Below.refl _ w).alloc (Nat.le_refl _) _
  have HT : Hid (Lib.TabIs Tryd.prog (w.alloc (.cells #[.string s] 9)) "internal/strconv.uint64pow10" .u64 Lib.pow10Tab) := tab_below htab b0
  clear htab
  have HL : ∀ L, L = decide (3000 < s.size) → _ := long_any s w.heap.size (w.alloc (.cells #[.string s] 9)) hs (by rw [Lib.cell_of_heap (MapKept.heap_alloc w _).1 0]; rfl)
  by_cases h3 : 3000 < s.size
  · have HL1 := HL true (decide_eq_true h3).symm
    clear HL h3
    go_enter Tryd.func5, Tryd.ntmps5
    go_wp2_with (go_at_call 9; refine HL1.mono ?_)
    rintro e w1 ⟨rfl, rfl⟩
    go_wp2_with (go_at_call 10; refine (awake_any _ HT.out).mono ?_)
    rintro e w2 ⟨rfl, b2⟩
    go_wp2
    go_ret
    exact ⟨rfl, b0.trans (b2.mono b0.size)⟩
  · have HL1 := HL false (decide_eq_false h3).symm
    clear HL h3
    generalize hg : Oct.get s.data.toList a size = R at *
    have HG := get_any s a size (w.alloc (.cells #[.string s] 9)) hs ha1
    have HR := refGet_any s a size (w.alloc (.cells #[.string s] 9)) hs ha1
    rw [hg] at HG HR
    clear hg
    go_enter Tryd.func5, Tryd.ntmps5
    go_wp2_with (go_at_call 9; refine HL1.mono ?_)
    rintro e w1 ⟨rfl, rfl⟩
    go_wp2_with (go_at_call 19; refine HG.mono ?_)
    rintro e w1 ⟨rfl, rfl⟩
    go_wp2_with (go_at_call 20; refine HR.mono ?_)
    rintro e w1 ⟨rfl, rfl⟩
    go_wp2_with (go_at_call 10; refine (awake_any _ HT.out).mono ?_)
    rintro e w2 ⟨rfl, b2⟩
    go_wp2
    go_ret
    exact ⟨rfl, b0.trans (b2.mono b0.size)⟩
end Go.Proofs.YtakgmpebgaiinaaDoor
