/-
  Walks of the laws of layer 5: JobParses.
-/
import Derived.Test.YthjlhbbhdliffaaDoorLawJ2
import Derived.Test.YthjlhbbhdliffaaDoorJb12
namespace Go.Proofs.YthjlhbbhdliffaaDoor
open Go.RowKit

set_option maxHeartbeats 4000000 in
set_option maxRecDepth 100000 in
theorem parses_walk (s : ByteArray) (_ : s.size ≤ maxLen) (w : World) (hw : Ok w) :
    Calls Tryd.prog 4 #[.string s] w fun e w' => e = .returned (.bool true) ∧ Below w.heap.size w w' := by
  have HA : Hid (∀ W, Below w.heap.size w W → Calls Tryd.prog 9 #[] W fun e w' => e = .returned (.bool true) ∧ Below w.heap.size w w') := fun W hW => (awake_any W (hw.below hW)).mono fun e w' ⟨h1, h2⟩ => ⟨h1, hW.trans (h2.mono hW.size)⟩
  by_cases hbig : 3000 < s.size
  · have d3 : decide ((3000 : Int) < (s.size : Int)) = true := by simp; omega
    clear hw
    go_enter Tryd.func4, Tryd.ntmps4
    go_wp2_with (go_at_call 9; refine (HA.out _ (Below.refl _ _)).mono ?_; rintro e w' ⟨rfl, b'⟩)
    go_ret
    exact ⟨rfl, b'⟩
  · have d3 : decide ((3000 : Int) < (s.size : Int)) = false := by simp; omega
    have HP : Hid (Calls Tryd.prog 14 #[.string s] w fun e w' => e = .returned (.tuple #[jv (Job.parse s.data.toList).1, .int .i64 (Job.parse s.data.toList).2]) ∧ Below w.heap.size w w') := parse_any s w hw (by omega)
    have HR : Hid (∀ W, Below w.heap.size w W → Calls Tryd.prog 15 #[.string s] W fun e w' => e = .returned (.tuple #[jv (Job.parse s.data.toList).1, .int .i64 (Job.parse s.data.toList).2]) ∧ Below W.heap.size W w') := fun W hW => rparse_any s W (hw.below hW) (by omega)
    generalize Job.parse s.data.toList = p at *
    obtain ⟨⟨g, n, k, u, f, t, c, z⟩, q⟩ := p
    unfold jv at HP HR
    dsimp only at HP HR
    clear hw
    go_enter Tryd.func4, Tryd.ntmps4
    go_upto_region 4 with (go_at_call 14; refine HP.out.mono ?_; rintro e w1 ⟨rfl, b1⟩)
    have kJ : Blk w1.heap.size #[.int .i64 g, .int .i64 n, .int .i64 k, .string u, .string f, .string t, .string c, .int .i64 z] (w1.alloc (.cells #[.int .i64 g, .int .i64 n, .int .i64 k, .string u, .string f, .string t, .string c, .int .i64 z] 25)) := heap_alloc_new w1 _
    have bJ : Below w.heap.size w (w1.alloc (.cells #[.int .i64 g, .int .i64 n, .int .i64 k, .string u, .string f, .string t, .string c, .int .i64 z] 25)) := b1.alloc b1.size _
    go_wp2_with (first
      | (go_at_call 15; refine (HR.out _ bJ).mono ?_; rintro e w2 ⟨rfl, b2⟩; have kJ2 := kJ.below b2 kJ.lt; have c2 := kJ2.cell; have z2 := kJ2.lt; have b2w := bJ.trans (b2.mono bJ.size))
      | (go_at_call 9; refine (HA.out _ (by exact b2w.alloc b2w.size _)).mono ?_; rintro e w' ⟨rfl, b'⟩))
    go_ret
    exact ⟨rfl, b'⟩
end Go.Proofs.YthjlhbbhdliffaaDoor
