/-
  Walks of the laws of layer 5: JobTexts.
-/
import Derived.Test.YthjlhbbhdliffaaDoorLawJ2
namespace Go.Proofs.YthjlhbbhdliffaaDoor
open Go.RowKit

set_option maxHeartbeats 4000000 in
set_option maxRecDepth 100000 in
theorem texts_walk (g : Int) (n : Int) (k : Int) (u : ByteArray) (hu : u.size ≤ maxLen) (f : ByteArray) (hf : f.size ≤ maxLen) (t : ByteArray) (ht : t.size ≤ maxLen) (c : ByteArray) (hc : c.size ≤ maxLen) (z : Int) (w : World) (hw : Ok w) :
    Calls Tryd.prog 3 #[.agg #[.int .i64 g, .int .i64 n, .int .i64 k, .string u, .string f, .string t, .string c, .int .i64 z]] w fun e w' => e = .returned (.bool true) ∧ Below w.heap.size w w' := by
  have hb0 : w.heap.size < (w.alloc (.cells #[.int .i64 g, .int .i64 n, .int .i64 k, .string u, .string f, .string t, .string c, .int .i64 z] 25)).heap.size := by simp
  have hk0 : Keeps w.heap.size g n k u f t c z (w.alloc (.cells #[.int .i64 g, .int .i64 n, .int .i64 k, .string u, .string f, .string t, .string c, .int .i64 z] 25)) := keeps_new g n k u f t c z w _
  have bw : Below w.heap.size w (w.alloc (.cells #[.int .i64 g, .int .i64 n, .int .i64 k, .string u, .string f, .string t, .string c, .int .i64 z] 25)) := below_alloc1 w _
  have hw0 : Ok (w.alloc (.cells #[.int .i64 g, .int .i64 n, .int .i64 k, .string u, .string f, .string t, .string c, .int .i64 z] 25)) := hw.below bw
  have HL : Hid (Calls Tryd.prog 8 #[.slice (some ⟨w.heap.size + 1, 0, none⟩) 1 1] ((w.alloc (.cells #[.int .i64 g, .int .i64 n, .int .i64 k, .string u, .string f, .string t, .string c, .int .i64 z] 25)).alloc (.cells #[.int .i64 g, .int .i64 n, .int .i64 k, .string u, .string f, .string t, .string c, .int .i64 z] 25)) fun e w' => OneLong (w.alloc (.cells #[.int .i64 g, .int .i64 n, .int .i64 k, .string u, .string f, .string t, .string c, .int .i64 z] 25)) w.heap.size g n k u f t c z e w') :=
    long_at (by simp) hk0 hb0
  have HA : Hid (∀ W, Below (w.alloc (.cells #[.int .i64 g, .int .i64 n, .int .i64 k, .string u, .string f, .string t, .string c, .int .i64 z] 25)).heap.size (w.alloc (.cells #[.int .i64 g, .int .i64 n, .int .i64 k, .string u, .string f, .string t, .string c, .int .i64 z] 25)) W → Calls Tryd.prog 9 #[] W fun e w' => e = .returned (.bool true) ∧ Below (w.alloc (.cells #[.int .i64 g, .int .i64 n, .int .i64 k, .string u, .string f, .string t, .string c, .int .i64 z] 25)).heap.size (w.alloc (.cells #[.int .i64 g, .int .i64 n, .int .i64 k, .string u, .string f, .string t, .string c, .int .i64 z] 25)) w' ∧ w.heap.size < w'.heap.size ∧ Keeps w.heap.size g n k u f t c z w') := fun W hW => chain2 hk0 hb0 hW (awake_any W (hw0.below hW))
  have HT : Hid (∀ W, Below (w.alloc (.cells #[.int .i64 g, .int .i64 n, .int .i64 k, .string u, .string f, .string t, .string c, .int .i64 z] 25)).heap.size (w.alloc (.cells #[.int .i64 g, .int .i64 n, .int .i64 k, .string u, .string f, .string t, .string c, .int .i64 z] 25)) W → Calls Tryd.prog 10 #[.agg #[.int .i64 g, .int .i64 n, .int .i64 k, .string u, .string f, .string t, .string c, .int .i64 z]] W fun e w' => e = .returned (.tuple #[.string ⟨(Job.text ⟨g, n, k, u, f, t, c, z⟩).1.toArray⟩, .int .i64 ((Job.text ⟨g, n, k, u, f, t, c, z⟩).2 : Nat)]) ∧ Below (w.alloc (.cells #[.int .i64 g, .int .i64 n, .int .i64 k, .string u, .string f, .string t, .string c, .int .i64 z] 25)).heap.size (w.alloc (.cells #[.int .i64 g, .int .i64 n, .int .i64 k, .string u, .string f, .string t, .string c, .int .i64 z] 25)) w' ∧ w.heap.size < w'.heap.size ∧ Keeps w.heap.size g n k u f t c z w') := fun W hW => chain2 hk0 hb0 hW (jtext_any g n k u f t c z W (hw0.below hW) hu hf ht hc)
  have HR : Hid (∀ W, Below (w.alloc (.cells #[.int .i64 g, .int .i64 n, .int .i64 k, .string u, .string f, .string t, .string c, .int .i64 z] 25)).heap.size (w.alloc (.cells #[.int .i64 g, .int .i64 n, .int .i64 k, .string u, .string f, .string t, .string c, .int .i64 z] 25)) W → Calls Tryd.prog 11 #[.agg #[.int .i64 g, .int .i64 n, .int .i64 k, .string u, .string f, .string t, .string c, .int .i64 z]] W fun e w' => e = .returned (.tuple #[.string ⟨(Job.text ⟨g, n, k, u, f, t, c, z⟩).1.toArray⟩, .int .i64 ((Job.text ⟨g, n, k, u, f, t, c, z⟩).2 : Nat)]) ∧ Below (w.alloc (.cells #[.int .i64 g, .int .i64 n, .int .i64 k, .string u, .string f, .string t, .string c, .int .i64 z] 25)).heap.size (w.alloc (.cells #[.int .i64 g, .int .i64 n, .int .i64 k, .string u, .string f, .string t, .string c, .int .i64 z] 25)) w' ∧ w.heap.size < w'.heap.size ∧ Keeps w.heap.size g n k u f t c z w') := fun W hW => chain2 hk0 hb0 hW (rjtext_any g n k u f t c z W (hw0.below hW) hu hf ht hc)
  have HC : Hid (∀ W, Below (w.alloc (.cells #[.int .i64 g, .int .i64 n, .int .i64 k, .string u, .string f, .string t, .string c, .int .i64 z] 25)).heap.size (w.alloc (.cells #[.int .i64 g, .int .i64 n, .int .i64 k, .string u, .string f, .string t, .string c, .int .i64 z] 25)) W → Calls Tryd.prog 12 #[.agg #[.int .i64 g, .int .i64 n, .int .i64 k, .string u, .string f, .string t, .string c, .int .i64 z]] W fun e w' => e = .returned (.int .i64 (Job.chk ⟨g, n, k, u, f, t, c, z⟩ : Nat)) ∧ Below (w.alloc (.cells #[.int .i64 g, .int .i64 n, .int .i64 k, .string u, .string f, .string t, .string c, .int .i64 z] 25)).heap.size (w.alloc (.cells #[.int .i64 g, .int .i64 n, .int .i64 k, .string u, .string f, .string t, .string c, .int .i64 z] 25)) w' ∧ w.heap.size < w'.heap.size ∧ Keeps w.heap.size g n k u f t c z w') := fun W hW => chain2 hk0 hb0 hW (jcheck_any g n k u f t c z W (hw0.below hW) hu hf ht hc)
  have HD : Hid (∀ W, Below (w.alloc (.cells #[.int .i64 g, .int .i64 n, .int .i64 k, .string u, .string f, .string t, .string c, .int .i64 z] 25)).heap.size (w.alloc (.cells #[.int .i64 g, .int .i64 n, .int .i64 k, .string u, .string f, .string t, .string c, .int .i64 z] 25)) W → Calls Tryd.prog 13 #[.agg #[.int .i64 g, .int .i64 n, .int .i64 k, .string u, .string f, .string t, .string c, .int .i64 z]] W fun e w' => e = .returned (.int .i64 (Job.chk ⟨g, n, k, u, f, t, c, z⟩ : Nat)) ∧ Below (w.alloc (.cells #[.int .i64 g, .int .i64 n, .int .i64 k, .string u, .string f, .string t, .string c, .int .i64 z] 25)).heap.size (w.alloc (.cells #[.int .i64 g, .int .i64 n, .int .i64 k, .string u, .string f, .string t, .string c, .int .i64 z] 25)) w' ∧ w.heap.size < w'.heap.size ∧ Keeps w.heap.size g n k u f t c z w') := fun W hW => chain2 hk0 hb0 hW (rjcheck_any g n k u f t c z W (hw0.below hW) hu hf ht hc)
  obtain ⟨j0, j1, j2, j3, j4, j5, j6, j7⟩ := hk0
  generalize (⟨(Job.text ⟨g, n, k, u, f, t, c, z⟩).1.toArray⟩ : ByteArray) = X at *
  generalize ((Job.text ⟨g, n, k, u, f, t, c, z⟩).2 : Int) = q at *
  generalize (Job.chk ⟨g, n, k, u, f, t, c, z⟩ : Int) = r at *
  clear hw hw0 hu hf ht hc
  go_enter Tryd.func3, Tryd.ntmps3
  go_wp2_with (go_at_call 8; refine HL.out.mono ?_)
  intro e w1 hl1
  obtain ⟨L, rfl, b1, z1, i0, i1, i2, i3, i4, i5, i6, i7⟩ := hl1
  cases L
  · go_upto_region 5 with (first
      | (go_at_call 10; refine (HT.out _ (by assumption)).mono ?_; rintro e w' ⟨rfl, b', z', i0, i1, i2, i3, i4, i5, i6, i7⟩)
      | (go_at_call 11; refine (HR.out _ (by assumption)).mono ?_; rintro e w' ⟨rfl, b', z', i0, i1, i2, i3, i4, i5, i6, i7⟩))
    go_region_held3 (fun w' => w'.cell? ⟨w.heap.size, 0, none⟩ = some (.int .i64 g) ∧ w'.cell? ⟨w.heap.size, 1, none⟩ = some (.int .i64 n) ∧ w'.cell? ⟨w.heap.size, 2, none⟩ = some (.int .i64 k) ∧ w'.cell? ⟨w.heap.size, 3, none⟩ = some (.string u) ∧ w'.cell? ⟨w.heap.size, 4, none⟩ = some (.string f) ∧ w'.cell? ⟨w.heap.size, 5, none⟩ = some (.string t) ∧ w'.cell? ⟨w.heap.size, 6, none⟩ = some (.string c) ∧ w'.cell? ⟨w.heap.size, 7, none⟩ = some (.int .i64 z)) (go_keep) (first
      | (go_at_call 12; refine (HC.out _ ?_).mono ?_; (first | assumption | exact Below.drew (by assumption)); rintro e w' ⟨rfl, b', z', i0, i1, i2, i3, i4, i5, i6, i7⟩)
      | (go_at_call 13; refine (HD.out _ ?_).mono ?_; (first | assumption | exact Below.drew (by assumption)); rintro e w' ⟨rfl, b', z', i0, i1, i2, i3, i4, i5, i6, i7⟩)
      | (go_at_call 9; refine (HA.out _ ?_).mono ?_; (first | assumption | exact Below.drew (by assumption)); rintro e w' ⟨rfl, b', z', i0, i1, i2, i3, i4, i5, i6, i7⟩))
    all_goals
      go_wp2
      go_ret
      exact ⟨rfl, bw.trans (Below.mono (by first | assumption | exact Below.drew (by assumption)) bw.size)⟩
  · go_wp2_with (go_at_call 9; refine (HA.out _ (by assumption)).mono ?_; rintro e w' ⟨rfl, b', z', i0, i1, i2, i3, i4, i5, i6, i7⟩)
    go_ret
    exact ⟨rfl, bw.trans (Below.mono (by assumption) bw.size)⟩
end Go.Proofs.YthjlhbbhdliffaaDoor
