/-
  Walks of layer 5: Text of what may not be; the document's Text.
-/
import Derived.Test.YtgcbaflaidehnaaDoorJb5
import Derived.Test.YtgcbaflaidehnaaDoorJb6
namespace Go.Proofs.YtgcbaflaidehnaaDoor
open Go.RowKit

set_option maxHeartbeats 1000000 in
theorem jtext_no (g n k : Int) (u f t c : ByteArray) (z : Int) (w : World) (hw : Ok w) (h0 : Job.chk ⟨g, n, k, u, f, t, c, z⟩ ≠ 0) (hu : u.size ≤ maxLen) (hf : f.size ≤ maxLen) (ht : t.size ≤ maxLen) (hc : c.size ≤ maxLen) :
    Calls Tryd.prog 8 #[.agg #[.int .i64 g, .int .i64 n, .int .i64 k, .string u, .string f, .string t, .string c, .int .i64 z]] w fun e w' => e = .returned (.tuple #[.string ⟨#[]⟩, .int .i64 (Job.chk ⟨g, n, k, u, f, t, c, z⟩ : Nat)]) ∧ Below w.heap.size w w' := by
  have hb0 : w.heap.size < (w.alloc (.cells #[.int .i64 g, .int .i64 n, .int .i64 k, .string u, .string f, .string t, .string c, .int .i64 z] 29)).heap.size := by simp
  have hk0 : Keeps w.heap.size g n k u f t c z (w.alloc (.cells #[.int .i64 g, .int .i64 n, .int .i64 k, .string u, .string f, .string t, .string c, .int .i64 z] 29)) := keeps_new g n k u f t c z w _
  have bw : Below w.heap.size w (w.alloc (.cells #[.int .i64 g, .int .i64 n, .int .i64 k, .string u, .string f, .string t, .string c, .int .i64 z] 29)) := below_alloc1 w _
  have hw0 : Ok (w.alloc (.cells #[.int .i64 g, .int .i64 n, .int .i64 k, .string u, .string f, .string t, .string c, .int .i64 z] 29)) := hw.below bw
  have HK : Hid (∀ W, Below (w.alloc (.cells #[.int .i64 g, .int .i64 n, .int .i64 k, .string u, .string f, .string t, .string c, .int .i64 z] 29)).heap.size (w.alloc (.cells #[.int .i64 g, .int .i64 n, .int .i64 k, .string u, .string f, .string t, .string c, .int .i64 z] 29)) W → Calls Tryd.prog 15 #[.agg #[.int .i64 g, .int .i64 n, .int .i64 k, .string u, .string f, .string t, .string c, .int .i64 z]] W fun e w' => e = .returned (.int .i64 (Job.chk ⟨g, n, k, u, f, t, c, z⟩ : Nat)) ∧ Below (w.alloc (.cells #[.int .i64 g, .int .i64 n, .int .i64 k, .string u, .string f, .string t, .string c, .int .i64 z] 29)).heap.size (w.alloc (.cells #[.int .i64 g, .int .i64 n, .int .i64 k, .string u, .string f, .string t, .string c, .int .i64 z] 29)) w' ∧ Keeps w.heap.size g n k u f t c z w') := fun W hW => chain hk0 hb0 hW (jcheck_any g n k u f t c z W (hw0.below hW) hu hf ht hc)
  obtain ⟨n1, n2, n3, n4⟩ := ne_facts h0
  generalize Job.chk ⟨g, n, k, u, f, t, c, z⟩ = q at *
  obtain ⟨j0, j1, j2, j3, j4, j5, j6, j7⟩ := hk0
  clear hw0 hw h0
  go_enter Tryd.func8, Tryd.ntmps8
  go_wp2_with (go_at_call 15; refine (HK.out _ (Below.refl _ _)).mono ?_; rintro e w' ⟨rfl, b', i0, i1, i2, i3, i4, i5, i6, i7⟩)
  go_ret2
  exact ⟨rfl, bw.trans (b'.mono bw.size)⟩

theorem jtext_any (g n k : Int) (u f t c : ByteArray) (z : Int) (w : World) (hw : Ok w) (hu : u.size ≤ maxLen) (hf : f.size ≤ maxLen) (ht : t.size ≤ maxLen) (hc : c.size ≤ maxLen) :
    Calls Tryd.prog 8 #[.agg #[.int .i64 g, .int .i64 n, .int .i64 k, .string u, .string f, .string t, .string c, .int .i64 z]] w fun e w' => e = .returned (.tuple #[.string ⟨(Job.text ⟨g, n, k, u, f, t, c, z⟩).1.toArray⟩, .int .i64 ((Job.text ⟨g, n, k, u, f, t, c, z⟩).2 : Nat)]) ∧ Below w.heap.size w w' := by
  by_cases h : Job.chk ⟨g, n, k, u, f, t, c, z⟩ = 0
  · have e : Job.text ⟨g, n, k, u, f, t, c, z⟩ = (Job.txt ⟨g, n, k, u, f, t, c, z⟩, 0) := by unfold Job.text; rw [if_pos h]
    rw [e]
    exact jtext_yes g n k u f t c z w hw h hu hf ht hc
  · have e : Job.text ⟨g, n, k, u, f, t, c, z⟩ = ([], Job.chk ⟨g, n, k, u, f, t, c, z⟩) := by unfold Job.text; rw [if_neg h]
    rw [e]
    exact jtext_no g n k u f t c z w hw h hu hf ht hc

namespace Job
theorem txt_ba (g n k : Int) (u f t c : ByteArray) (z : Int) (L X Z : ByteArray) (hL : L.data.toList = ltr k) (hX : X.data.toList = Nam.idT g n) (hZ : Z.data.toList = Lib.itoa z) :
    (⟨(txt ⟨g, n, k, u, f, t, c, z⟩).toArray⟩ : ByteArray) = if k = 2 then L ++ (⟨#[32]⟩ ++ X ++ ⟨#[32]⟩ ++ u ++ ⟨#[32]⟩ ++ f ++ ⟨#[32]⟩ ++ t ++ ⟨#[32]⟩ ++ Z) ++ ⟨#[32]⟩ ++ c else L ++ (⟨#[32]⟩ ++ X ++ ⟨#[32]⟩ ++ u ++ ⟨#[32]⟩ ++ f ++ ⟨#[32]⟩ ++ t ++ ⟨#[32]⟩ ++ Z) := by
  apply ba_of
  unfold txt ws
  by_cases hk : k = 2
  · simp only [hk, if_true]
    simp only [hk] at hL
    simp [jn, ByteArray.data_append, hL, hX, hZ]
  · simp only [if_neg hk]
    simp [jn, ByteArray.data_append, hL, hX, hZ]
end Job

end Go.Proofs.YtgcbaflaidehnaaDoor
