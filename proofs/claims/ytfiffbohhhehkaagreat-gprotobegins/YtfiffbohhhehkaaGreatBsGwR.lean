/-
  Walks of the document's layer 11: Write.
-/
import Derived.Test.YtfiffbohhhehkaaGreatBsGwQ
namespace Go.Proofs.YtfiffbohhhehkaaGreat
open Go.RowKit
set_option maxHeartbeats 4000000 in
set_option maxRecDepth 100000 in
theorem rw_h0 (t h l z : Int) (d : ByteArray) (w : World)  (bw : Below w.heap.size w (w.alloc (.cells #[.int .i64 t, .int .i64 h, .int .i64 l, .int .i64 z, .string d] 80))) (_kw : Rg.Bk w.heap.size [.int .i64 t, .int .i64 h, .int .i64 l, .int .i64 z, .string d] 80 (w.alloc (.cells #[.int .i64 t, .int .i64 h, .int .i64 l, .int .i64 z, .string d] 80)))
    (a1 : decide (h < 0) = true)  :
    Calls Tryz.prog 72 #[.agg #[.int .i64 t, .int .i64 h, .int .i64 l, .int .i64 z, .string d]] w fun e w' => e = .returned (.tuple #[.string ⟨#[]⟩, .int .i64 1]) ∧ Below w.heap.size w w' := by
  go_enter Tryz.func72, Tryz.ntmps72
  go_wp2_with fail
  all_goals
    go_ret2
    exact ⟨rfl, by first | assumption | exact Below.drew (by assumption)⟩
set_option maxHeartbeats 4000000 in
set_option maxRecDepth 100000 in
theorem rw_h7 (t h l z : Int) (d : ByteArray) (w : World)  (bw : Below w.heap.size w (w.alloc (.cells #[.int .i64 t, .int .i64 h, .int .i64 l, .int .i64 z, .string d] 80))) (_kw : Rg.Bk w.heap.size [.int .i64 t, .int .i64 h, .int .i64 l, .int .i64 z, .string d] 80 (w.alloc (.cells #[.int .i64 t, .int .i64 h, .int .i64 l, .int .i64 z, .string d] 80)))
    (a1 : decide (h < 0) = false) (a2 : decide (7 < h) = true)  :
    Calls Tryz.prog 72 #[.agg #[.int .i64 t, .int .i64 h, .int .i64 l, .int .i64 z, .string d]] w fun e w' => e = .returned (.tuple #[.string ⟨#[]⟩, .int .i64 1]) ∧ Below w.heap.size w w' := by
  go_enter Tryz.func72, Tryz.ntmps72
  go_wp2_with fail
  all_goals
    go_ret2
    exact ⟨rfl, by first | assumption | exact Below.drew (by assumption)⟩
set_option maxHeartbeats 4000000 in
set_option maxRecDepth 100000 in
theorem rw_l0 (t h l z : Int) (d : ByteArray) (w : World)  (bw : Below w.heap.size w (w.alloc (.cells #[.int .i64 t, .int .i64 h, .int .i64 l, .int .i64 z, .string d] 80))) (_kw : Rg.Bk w.heap.size [.int .i64 t, .int .i64 h, .int .i64 l, .int .i64 z, .string d] 80 (w.alloc (.cells #[.int .i64 t, .int .i64 h, .int .i64 l, .int .i64 z, .string d] 80)))
    (a1 : decide (h < 0) = false) (a2 : decide (7 < h) = false) (a3 : decide (l < 0) = true)  :
    Calls Tryz.prog 72 #[.agg #[.int .i64 t, .int .i64 h, .int .i64 l, .int .i64 z, .string d]] w fun e w' => e = .returned (.tuple #[.string ⟨#[]⟩, .int .i64 1]) ∧ Below w.heap.size w w' := by
  go_enter Tryz.func72, Tryz.ntmps72
  go_wp2_with fail
  all_goals
    go_ret2
    exact ⟨rfl, by first | assumption | exact Below.drew (by assumption)⟩
set_option maxHeartbeats 4000000 in
set_option maxRecDepth 100000 in
theorem rw_l7 (t h l z : Int) (d : ByteArray) (w : World)  (bw : Below w.heap.size w (w.alloc (.cells #[.int .i64 t, .int .i64 h, .int .i64 l, .int .i64 z, .string d] 80))) (_kw : Rg.Bk w.heap.size [.int .i64 t, .int .i64 h, .int .i64 l, .int .i64 z, .string d] 80 (w.alloc (.cells #[.int .i64 t, .int .i64 h, .int .i64 l, .int .i64 z, .string d] 80)))
    (a1 : decide (h < 0) = false) (a2 : decide (7 < h) = false) (a3 : decide (l < 0) = false) (a4 : decide (7 < l) = true)  :
    Calls Tryz.prog 72 #[.agg #[.int .i64 t, .int .i64 h, .int .i64 l, .int .i64 z, .string d]] w fun e w' => e = .returned (.tuple #[.string ⟨#[]⟩, .int .i64 1]) ∧ Below w.heap.size w w' := by
  go_enter Tryz.func72, Tryz.ntmps72
  go_wp2_with fail
  all_goals
    go_ret2
    exact ⟨rfl, by first | assumption | exact Below.drew (by assumption)⟩
set_option maxHeartbeats 4000000 in
set_option maxRecDepth 100000 in
theorem rw_0z (h l z : Int) (d : ByteArray) (w : World)  (bw : Below w.heap.size w (w.alloc (.cells #[.int .i64 0, .int .i64 h, .int .i64 l, .int .i64 z, .string d] 80))) (kw : Rg.Bk w.heap.size [.int .i64 0, .int .i64 h, .int .i64 l, .int .i64 z, .string d] 80 (w.alloc (.cells #[.int .i64 0, .int .i64 h, .int .i64 l, .int .i64 z, .string d] 80)))
    (a1 : decide (h < 0) = false) (a2 : decide (7 < h) = false) (a3 : decide (l < 0) = false) (a4 : decide (7 < l) = false) (a6 : ¬ z = 0) (HC : Hid (∀ W, Below w.heap.size w W → Rg.Bk w.heap.size [.int .i64 0, .int .i64 h, .int .i64 l, .int .i64 z, .string d] 80 W → Calls Tryz.prog 93 #[.agg #[.int .i64 0, .int .i64 h, .int .i64 l, .int .i64 z, .string d]] W fun e w' => SomeInt e ∧ Below w.heap.size w w' ∧ Rg.Bk w.heap.size [.int .i64 0, .int .i64 h, .int .i64 l, .int .i64 z, .string d] 80 w')) :
    Calls Tryz.prog 72 #[.agg #[.int .i64 0, .int .i64 h, .int .i64 l, .int .i64 z, .string d]] w fun e w' => e = .returned (.tuple #[.string ⟨#[]⟩, .int .i64 1]) ∧ Below w.heap.size w w' := by
  go_enter Tryz.func72, Tryz.ntmps72
  go_wp2_with (first
    | (go_at_call 93; refine (HC.out _ (by first | assumption | exact Below.drew (by assumption)) (by first | assumption | exact Rg.Bk.drew (by assumption))).mono ?_; rintro e w1 ⟨⟨cc, rfl⟩, b1, k1⟩; have c1 := k1.cell))
  all_goals
    go_ret2
    exact ⟨rfl, by first | assumption | exact Below.drew (by assumption)⟩
set_option maxHeartbeats 4000000 in
set_option maxRecDepth 100000 in
theorem rw_0d (h l : Int) (d : ByteArray) (w : World)  (bw : Below w.heap.size w (w.alloc (.cells #[.int .i64 0, .int .i64 h, .int .i64 l, .int .i64 0, .string d] 80))) (kw : Rg.Bk w.heap.size [.int .i64 0, .int .i64 h, .int .i64 l, .int .i64 0, .string d] 80 (w.alloc (.cells #[.int .i64 0, .int .i64 h, .int .i64 l, .int .i64 0, .string d] 80)))
    (a1 : decide (h < 0) = false) (a2 : decide (7 < h) = false) (a3 : decide (l < 0) = false) (a4 : decide (7 < l) = false) (a5 : (d.toList == []) = false) (HC : Hid (∀ W, Below w.heap.size w W → Rg.Bk w.heap.size [.int .i64 0, .int .i64 h, .int .i64 l, .int .i64 0, .string d] 80 W → Calls Tryz.prog 93 #[.agg #[.int .i64 0, .int .i64 h, .int .i64 l, .int .i64 0, .string d]] W fun e w' => SomeInt e ∧ Below w.heap.size w w' ∧ Rg.Bk w.heap.size [.int .i64 0, .int .i64 h, .int .i64 l, .int .i64 0, .string d] 80 w')) :
    Calls Tryz.prog 72 #[.agg #[.int .i64 0, .int .i64 h, .int .i64 l, .int .i64 0, .string d]] w fun e w' => e = .returned (.tuple #[.string ⟨#[]⟩, .int .i64 1]) ∧ Below w.heap.size w w' := by
  go_enter Tryz.func72, Tryz.ntmps72
  go_wp2_with (first
    | (go_at_call 93; refine (HC.out _ (by first | assumption | exact Below.drew (by assumption)) (by first | assumption | exact Rg.Bk.drew (by assumption))).mono ?_; rintro e w1 ⟨⟨cc, rfl⟩, b1, k1⟩; have c1 := k1.cell))
  all_goals
    go_ret2
    exact ⟨rfl, by first | assumption | exact Below.drew (by assumption)⟩
set_option maxHeartbeats 4000000 in
set_option maxRecDepth 100000 in
theorem rw_2k (h l z : Int) (d : ByteArray) (w : World)  (bw : Below w.heap.size w (w.alloc (.cells #[.int .i64 2, .int .i64 h, .int .i64 l, .int .i64 z, .string d] 80))) (kw : Rg.Bk w.heap.size [.int .i64 2, .int .i64 h, .int .i64 l, .int .i64 z, .string d] 80 (w.alloc (.cells #[.int .i64 2, .int .i64 h, .int .i64 l, .int .i64 z, .string d] 80)))
    (a1 : decide (h < 0) = false) (a2 : decide (7 < h) = false) (a3 : decide (l < 0) = false) (a4 : decide (7 < l) = false) (k : Nat) (hk : ((k : Int) == 0) = true) (HC : Hid (∀ W, Below w.heap.size w W → Rg.Bk w.heap.size [.int .i64 2, .int .i64 h, .int .i64 l, .int .i64 z, .string d] 80 W → Calls Tryz.prog 93 #[.agg #[.int .i64 2, .int .i64 h, .int .i64 l, .int .i64 z, .string d]] W fun e w' => SomeInt e ∧ Below w.heap.size w w' ∧ Rg.Bk w.heap.size [.int .i64 2, .int .i64 h, .int .i64 l, .int .i64 z, .string d] 80 w'))
    (HK : Hid (∀ W, Below w.heap.size w W → Rg.Bk w.heap.size [.int .i64 2, .int .i64 h, .int .i64 l, .int .i64 z, .string d] 80 W → Calls Tryz.prog 28 #[.int .i64 z] W fun e w' => e = .returned (.int .i64 (k : Int)) ∧ Below w.heap.size w w' ∧ Rg.Bk w.heap.size [.int .i64 2, .int .i64 h, .int .i64 l, .int .i64 z, .string d] 80 w')) :
    Calls Tryz.prog 72 #[.agg #[.int .i64 2, .int .i64 h, .int .i64 l, .int .i64 z, .string d]] w fun e w' => e = .returned (.tuple #[.string ⟨#[]⟩, .int .i64 1]) ∧ Below w.heap.size w w' := by
  go_enter Tryz.func72, Tryz.ntmps72
  go_wp2_with (first
    | (go_at_call 93; refine (HC.out _ (by first | assumption | exact Below.drew (by assumption)) (by first | assumption | exact Rg.Bk.drew (by assumption))).mono ?_; rintro e w1 ⟨⟨cc, rfl⟩, b1, k1⟩; have c1 := k1.cell)
    | (go_at_call 28; refine (HK.out _ (by first | assumption | exact Below.drew (by assumption)) (by first | assumption | exact Rg.Bk.drew (by assumption))).mono ?_; rintro e w2 ⟨rfl, b2, k2⟩; have c2 := k2.cell))
  all_goals
    go_ret2
    exact ⟨rfl, by first | assumption | exact Below.drew (by assumption)⟩
set_option maxHeartbeats 4000000 in
set_option maxRecDepth 100000 in
theorem rw_2s (h l z : Int) (d : ByteArray) (w : World)  (bw : Below w.heap.size w (w.alloc (.cells #[.int .i64 2, .int .i64 h, .int .i64 l, .int .i64 z, .string d] 80))) (kw : Rg.Bk w.heap.size [.int .i64 2, .int .i64 h, .int .i64 l, .int .i64 z, .string d] 80 (w.alloc (.cells #[.int .i64 2, .int .i64 h, .int .i64 l, .int .i64 z, .string d] 80)))
    (a1 : decide (h < 0) = false) (a2 : decide (7 < h) = false) (a3 : decide (l < 0) = false) (a4 : decide (7 < l) = false) (k : Nat) (hk : ((k : Int) == 0) = false) (a5 : ((d.size : Int) == z) = false) (HC : Hid (∀ W, Below w.heap.size w W → Rg.Bk w.heap.size [.int .i64 2, .int .i64 h, .int .i64 l, .int .i64 z, .string d] 80 W → Calls Tryz.prog 93 #[.agg #[.int .i64 2, .int .i64 h, .int .i64 l, .int .i64 z, .string d]] W fun e w' => SomeInt e ∧ Below w.heap.size w w' ∧ Rg.Bk w.heap.size [.int .i64 2, .int .i64 h, .int .i64 l, .int .i64 z, .string d] 80 w'))
    (HK : Hid (∀ W, Below w.heap.size w W → Rg.Bk w.heap.size [.int .i64 2, .int .i64 h, .int .i64 l, .int .i64 z, .string d] 80 W → Calls Tryz.prog 28 #[.int .i64 z] W fun e w' => e = .returned (.int .i64 (k : Int)) ∧ Below w.heap.size w w' ∧ Rg.Bk w.heap.size [.int .i64 2, .int .i64 h, .int .i64 l, .int .i64 z, .string d] 80 w')) :
    Calls Tryz.prog 72 #[.agg #[.int .i64 2, .int .i64 h, .int .i64 l, .int .i64 z, .string d]] w fun e w' => e = .returned (.tuple #[.string ⟨#[]⟩, .int .i64 1]) ∧ Below w.heap.size w w' := by
  go_enter Tryz.func72, Tryz.ntmps72
  go_wp2_with (first
    | (go_at_call 93; refine (HC.out _ (by first | assumption | exact Below.drew (by assumption)) (by first | assumption | exact Rg.Bk.drew (by assumption))).mono ?_; rintro e w1 ⟨⟨cc, rfl⟩, b1, k1⟩; have c1 := k1.cell)
    | (go_at_call 28; refine (HK.out _ (by first | assumption | exact Below.drew (by assumption)) (by first | assumption | exact Rg.Bk.drew (by assumption))).mono ?_; rintro e w2 ⟨rfl, b2, k2⟩; have c2 := k2.cell))
  all_goals
    go_ret2
    exact ⟨rfl, by first | assumption | exact Below.drew (by assumption)⟩
set_option maxHeartbeats 4000000 in
set_option maxRecDepth 100000 in
theorem rw_3k (h l z : Int) (d : ByteArray) (w : World)  (bw : Below w.heap.size w (w.alloc (.cells #[.int .i64 3, .int .i64 h, .int .i64 l, .int .i64 z, .string d] 80))) (kw : Rg.Bk w.heap.size [.int .i64 3, .int .i64 h, .int .i64 l, .int .i64 z, .string d] 80 (w.alloc (.cells #[.int .i64 3, .int .i64 h, .int .i64 l, .int .i64 z, .string d] 80)))
    (a1 : decide (h < 0) = false) (a2 : decide (7 < h) = false) (a3 : decide (l < 0) = false) (a4 : decide (7 < l) = false) (k : Nat) (hk : ((k : Int) == 0) = true) (HC : Hid (∀ W, Below w.heap.size w W → Rg.Bk w.heap.size [.int .i64 3, .int .i64 h, .int .i64 l, .int .i64 z, .string d] 80 W → Calls Tryz.prog 93 #[.agg #[.int .i64 3, .int .i64 h, .int .i64 l, .int .i64 z, .string d]] W fun e w' => SomeInt e ∧ Below w.heap.size w w' ∧ Rg.Bk w.heap.size [.int .i64 3, .int .i64 h, .int .i64 l, .int .i64 z, .string d] 80 w'))
    (HK : Hid (∀ W, Below w.heap.size w W → Rg.Bk w.heap.size [.int .i64 3, .int .i64 h, .int .i64 l, .int .i64 z, .string d] 80 W → Calls Tryz.prog 28 #[.int .i64 z] W fun e w' => e = .returned (.int .i64 (k : Int)) ∧ Below w.heap.size w w' ∧ Rg.Bk w.heap.size [.int .i64 3, .int .i64 h, .int .i64 l, .int .i64 z, .string d] 80 w')) :
    Calls Tryz.prog 72 #[.agg #[.int .i64 3, .int .i64 h, .int .i64 l, .int .i64 z, .string d]] w fun e w' => e = .returned (.tuple #[.string ⟨#[]⟩, .int .i64 1]) ∧ Below w.heap.size w w' := by
  go_enter Tryz.func72, Tryz.ntmps72
  go_wp2_with (first
    | (go_at_call 93; refine (HC.out _ (by first | assumption | exact Below.drew (by assumption)) (by first | assumption | exact Rg.Bk.drew (by assumption))).mono ?_; rintro e w1 ⟨⟨cc, rfl⟩, b1, k1⟩; have c1 := k1.cell)
    | (go_at_call 28; refine (HK.out _ (by first | assumption | exact Below.drew (by assumption)) (by first | assumption | exact Rg.Bk.drew (by assumption))).mono ?_; rintro e w2 ⟨rfl, b2, k2⟩; have c2 := k2.cell))
  all_goals
    go_ret2
    exact ⟨rfl, by first | assumption | exact Below.drew (by assumption)⟩
set_option maxHeartbeats 4000000 in
set_option maxRecDepth 100000 in
theorem rw_3s (h l z : Int) (d : ByteArray) (w : World)  (bw : Below w.heap.size w (w.alloc (.cells #[.int .i64 3, .int .i64 h, .int .i64 l, .int .i64 z, .string d] 80))) (kw : Rg.Bk w.heap.size [.int .i64 3, .int .i64 h, .int .i64 l, .int .i64 z, .string d] 80 (w.alloc (.cells #[.int .i64 3, .int .i64 h, .int .i64 l, .int .i64 z, .string d] 80)))
    (a1 : decide (h < 0) = false) (a2 : decide (7 < h) = false) (a3 : decide (l < 0) = false) (a4 : decide (7 < l) = false) (k : Nat) (hk : ((k : Int) == 0) = false) (a5 : decide (z ≤ (d.size : Int)) = true) (HC : Hid (∀ W, Below w.heap.size w W → Rg.Bk w.heap.size [.int .i64 3, .int .i64 h, .int .i64 l, .int .i64 z, .string d] 80 W → Calls Tryz.prog 93 #[.agg #[.int .i64 3, .int .i64 h, .int .i64 l, .int .i64 z, .string d]] W fun e w' => SomeInt e ∧ Below w.heap.size w w' ∧ Rg.Bk w.heap.size [.int .i64 3, .int .i64 h, .int .i64 l, .int .i64 z, .string d] 80 w'))
    (HK : Hid (∀ W, Below w.heap.size w W → Rg.Bk w.heap.size [.int .i64 3, .int .i64 h, .int .i64 l, .int .i64 z, .string d] 80 W → Calls Tryz.prog 28 #[.int .i64 z] W fun e w' => e = .returned (.int .i64 (k : Int)) ∧ Below w.heap.size w w' ∧ Rg.Bk w.heap.size [.int .i64 3, .int .i64 h, .int .i64 l, .int .i64 z, .string d] 80 w')) :
    Calls Tryz.prog 72 #[.agg #[.int .i64 3, .int .i64 h, .int .i64 l, .int .i64 z, .string d]] w fun e w' => e = .returned (.tuple #[.string ⟨#[]⟩, .int .i64 1]) ∧ Below w.heap.size w w' := by
  go_enter Tryz.func72, Tryz.ntmps72
  go_wp2_with (first
    | (go_at_call 93; refine (HC.out _ (by first | assumption | exact Below.drew (by assumption)) (by first | assumption | exact Rg.Bk.drew (by assumption))).mono ?_; rintro e w1 ⟨⟨cc, rfl⟩, b1, k1⟩; have c1 := k1.cell)
    | (go_at_call 28; refine (HK.out _ (by first | assumption | exact Below.drew (by assumption)) (by first | assumption | exact Rg.Bk.drew (by assumption))).mono ?_; rintro e w2 ⟨rfl, b2, k2⟩; have c2 := k2.cell))
  all_goals
    go_ret2
    exact ⟨rfl, by first | assumption | exact Below.drew (by assumption)⟩
set_option maxHeartbeats 4000000 in
set_option maxRecDepth 100000 in
theorem rw_t (t h l z : Int) (d : ByteArray) (w : World)  (bw : Below w.heap.size w (w.alloc (.cells #[.int .i64 t, .int .i64 h, .int .i64 l, .int .i64 z, .string d] 80))) (kw : Rg.Bk w.heap.size [.int .i64 t, .int .i64 h, .int .i64 l, .int .i64 z, .string d] 80 (w.alloc (.cells #[.int .i64 t, .int .i64 h, .int .i64 l, .int .i64 z, .string d] 80)))
    (a1 : decide (h < 0) = false) (a2 : decide (7 < h) = false) (a3 : decide (l < 0) = false) (a4 : decide (7 < l) = false) (a5 : (t == 0) = false) (a6 : (t == 2) = false) (a7 : (t == 3) = false) (HC : Hid (∀ W, Below w.heap.size w W → Rg.Bk w.heap.size [.int .i64 t, .int .i64 h, .int .i64 l, .int .i64 z, .string d] 80 W → Calls Tryz.prog 93 #[.agg #[.int .i64 t, .int .i64 h, .int .i64 l, .int .i64 z, .string d]] W fun e w' => SomeInt e ∧ Below w.heap.size w w' ∧ Rg.Bk w.heap.size [.int .i64 t, .int .i64 h, .int .i64 l, .int .i64 z, .string d] 80 w')) :
    Calls Tryz.prog 72 #[.agg #[.int .i64 t, .int .i64 h, .int .i64 l, .int .i64 z, .string d]] w fun e w' => e = .returned (.tuple #[.string ⟨#[]⟩, .int .i64 1]) ∧ Below w.heap.size w w' := by
  go_enter Tryz.func72, Tryz.ntmps72
  go_wp2_with (first
    | (go_at_call 93; refine (HC.out _ (by first | assumption | exact Below.drew (by assumption)) (by first | assumption | exact Rg.Bk.drew (by assumption))).mono ?_; rintro e w1 ⟨⟨cc, rfl⟩, b1, k1⟩; have c1 := k1.cell))
  all_goals
    go_ret2
    exact ⟨rfl, by first | assumption | exact Below.drew (by assumption)⟩
set_option maxHeartbeats 4000000 in
set_option maxRecDepth 100000 in
theorem rw_0 (h l : Int) (w : World)  (bw : Below w.heap.size w (w.alloc (.cells #[.int .i64 0, .int .i64 h, .int .i64 l, .int .i64 0, .string ⟨#[]⟩] 80))) (kw : Rg.Bk w.heap.size [.int .i64 0, .int .i64 h, .int .i64 l, .int .i64 0, .string ⟨#[]⟩] 80 (w.alloc (.cells #[.int .i64 0, .int .i64 h, .int .i64 l, .int .i64 0, .string ⟨#[]⟩] 80)))
    (a1 : decide (h < 0) = false) (a2 : decide (7 < h) = false) (a3 : decide (l < 0) = false) (a4 : decide (7 < l) = false) (c m : Nat) (Hd : ByteArray) (HC : Hid (∀ W, Below w.heap.size w W → Rg.Bk w.heap.size [.int .i64 0, .int .i64 h, .int .i64 l, .int .i64 0, .string ⟨#[]⟩] 80 W → Calls Tryz.prog 93 #[.agg #[.int .i64 0, .int .i64 h, .int .i64 l, .int .i64 0, .string ⟨#[]⟩]] W fun e w' => e = .returned (.int .i64 (c : Int)) ∧ Below w.heap.size w w' ∧ Rg.Bk w.heap.size [.int .i64 0, .int .i64 h, .int .i64 l, .int .i64 0, .string ⟨#[]⟩] 80 w'))
    (HQ : Hid (∀ W, Below w.heap.size w W → Rg.Bk w.heap.size [.int .i64 0, .int .i64 h, .int .i64 l, .int .i64 0, .string ⟨#[]⟩] 80 W → Calls Tryz.prog 85 #[.int .i64 c] W fun e w' => e = .returned (.int .i64 (m : Int)) ∧ Below w.heap.size w w' ∧ Rg.Bk w.heap.size [.int .i64 0, .int .i64 h, .int .i64 l, .int .i64 0, .string ⟨#[]⟩] 80 w'))
    (HH : Hid (∀ W, Below w.heap.size w W → Rg.Bk w.heap.size [.int .i64 0, .int .i64 h, .int .i64 l, .int .i64 0, .string ⟨#[]⟩] 80 W → Calls Tryz.prog 94 #[.int .i64 9, .int .i64 m, .int .i64 c] W fun e w' => e = .returned (.string Hd) ∧ Below w.heap.size w w' ∧ Rg.Bk w.heap.size [.int .i64 0, .int .i64 h, .int .i64 l, .int .i64 0, .string ⟨#[]⟩] 80 w')) :
    Calls Tryz.prog 72 #[.agg #[.int .i64 0, .int .i64 h, .int .i64 l, .int .i64 0, .string ⟨#[]⟩]] w fun e w' => e = .returned (.tuple #[.string Hd, .int .i64 0]) ∧ Below w.heap.size w w' := by
  go_enter Tryz.func72, Tryz.ntmps72
  go_wp2_with (first
    | (go_at_call 93; refine (HC.out _ (by first | assumption | exact Below.drew (by assumption)) (by first | assumption | exact Rg.Bk.drew (by assumption))).mono ?_; rintro e w1 ⟨rfl, b1, k1⟩; have c1 := k1.cell)
    | (go_at_call 85; refine (HQ.out _ (by first | assumption | exact Below.drew (by assumption)) (by first | assumption | exact Rg.Bk.drew (by assumption))).mono ?_; rintro e w3 ⟨rfl, b3, k3⟩; have c3 := k3.cell)
    | (go_at_call 94; refine (HH.out _ (by first | assumption | exact Below.drew (by assumption)) (by first | assumption | exact Rg.Bk.drew (by assumption))).mono ?_; rintro e w5 ⟨rfl, b5, k5⟩; have c5 := k5.cell))
  all_goals
    go_ret2
    exact ⟨rfl, by first | assumption | exact Below.drew (by assumption)⟩
set_option maxHeartbeats 4000000 in
set_option maxRecDepth 100000 in
theorem rw_2 (h l z : Int) (d : ByteArray) (w : World)  (bw : Below w.heap.size w (w.alloc (.cells #[.int .i64 2, .int .i64 h, .int .i64 l, .int .i64 z, .string d] 80))) (kw : Rg.Bk w.heap.size [.int .i64 2, .int .i64 h, .int .i64 l, .int .i64 z, .string d] 80 (w.alloc (.cells #[.int .i64 2, .int .i64 h, .int .i64 l, .int .i64 z, .string d] 80)))
    (a1 : decide (h < 0) = false) (a2 : decide (7 < h) = false) (a3 : decide (l < 0) = false) (a4 : decide (7 < l) = false) (k : Nat) (hk : ((k : Int) == 0) = false) (a5 : ((d.size : Int) == z) = true) (c m : Nat) (Hd OUT : ByteArray) (hO : Hid (Hd ++ d = OUT)) (s1 : ¬ 9223372036854775807 < Hd.size + d.size) (HC : Hid (∀ W, Below w.heap.size w W → Rg.Bk w.heap.size [.int .i64 2, .int .i64 h, .int .i64 l, .int .i64 z, .string d] 80 W → Calls Tryz.prog 93 #[.agg #[.int .i64 2, .int .i64 h, .int .i64 l, .int .i64 z, .string d]] W fun e w' => e = .returned (.int .i64 (c : Int)) ∧ Below w.heap.size w w' ∧ Rg.Bk w.heap.size [.int .i64 2, .int .i64 h, .int .i64 l, .int .i64 z, .string d] 80 w'))
    (HK : Hid (∀ W, Below w.heap.size w W → Rg.Bk w.heap.size [.int .i64 2, .int .i64 h, .int .i64 l, .int .i64 z, .string d] 80 W → Calls Tryz.prog 28 #[.int .i64 z] W fun e w' => e = .returned (.int .i64 (k : Int)) ∧ Below w.heap.size w w' ∧ Rg.Bk w.heap.size [.int .i64 2, .int .i64 h, .int .i64 l, .int .i64 z, .string d] 80 w'))
    (HP : Hid (∀ W, Below w.heap.size w W → Rg.Bk w.heap.size [.int .i64 2, .int .i64 h, .int .i64 l, .int .i64 z, .string d] 80 W → Calls Tryz.prog 86 #[.string d, .int .i64 c] W fun e w' => e = .returned (.int .i64 (m : Int)) ∧ Below w.heap.size w w' ∧ Rg.Bk w.heap.size [.int .i64 2, .int .i64 h, .int .i64 l, .int .i64 z, .string d] 80 w'))
    (HH : Hid (∀ W, Below w.heap.size w W → Rg.Bk w.heap.size [.int .i64 2, .int .i64 h, .int .i64 l, .int .i64 z, .string d] 80 W → Calls Tryz.prog 94 #[.int .i64 k, .int .i64 m, .int .i64 c] W fun e w' => e = .returned (.string Hd) ∧ Below w.heap.size w w' ∧ Rg.Bk w.heap.size [.int .i64 2, .int .i64 h, .int .i64 l, .int .i64 z, .string d] 80 w')) :
    Calls Tryz.prog 72 #[.agg #[.int .i64 2, .int .i64 h, .int .i64 l, .int .i64 z, .string d]] w fun e w' => e = .returned (.tuple #[.string OUT, .int .i64 0]) ∧ Below w.heap.size w w' := by
  go_enter Tryz.func72, Tryz.ntmps72
  go_upto_region 12 with (first
    | (go_at_call 93; refine (HC.out _ (by first | assumption | exact Below.drew (by assumption)) (by first | assumption | exact Rg.Bk.drew (by assumption))).mono ?_; rintro e w1 ⟨rfl, b1, k1⟩; have c1 := k1.cell)
    | (go_at_call 28; refine (HK.out _ (by first | assumption | exact Below.drew (by assumption)) (by first | assumption | exact Rg.Bk.drew (by assumption))).mono ?_; rintro e w2 ⟨rfl, b2, k2⟩; have c2 := k2.cell)
    | (go_at_call 86; refine (HP.out _ (by first | assumption | exact Below.drew (by assumption)) (by first | assumption | exact Rg.Bk.drew (by assumption))).mono ?_; rintro e w4 ⟨rfl, b4, k4⟩; have c4 := k4.cell)
    | (go_at_call 94; refine (HH.out _ (by first | assumption | exact Below.drew (by assumption)) (by first | assumption | exact Rg.Bk.drew (by assumption))).mono ?_; rintro e w5 ⟨rfl, b5, k5⟩; have c5 := k5.cell))
  clear c1 c2
  have p3 := k2.cell 3; have p4 := k2.cell 4
  simp only [List.getElem?_cons_zero, List.getElem?_cons_succ] at p3 p4
  go_region_held3 (fun w' => w'.cell? ⟨w.heap.size, 3, none⟩ = some (.int .i64 z) ∧ w'.cell? ⟨w.heap.size, 4, none⟩ = some (.string d)) (go_keep) (first
    | (go_at_call 93; refine (HC.out _ (by first | assumption | exact Below.drew (by assumption)) (by first | assumption | exact Rg.Bk.drew (by assumption))).mono ?_; rintro e w1 ⟨rfl, b1, k1⟩; have rk13 := k1.cell 3; have rk14 := k1.cell 4; simp only [List.getElem?_cons_zero, List.getElem?_cons_succ] at rk13 rk14)
    | (go_at_call 28; refine (HK.out _ (by first | assumption | exact Below.drew (by assumption)) (by first | assumption | exact Rg.Bk.drew (by assumption))).mono ?_; rintro e w2 ⟨rfl, b2, k2⟩; have rk23 := k2.cell 3; have rk24 := k2.cell 4; simp only [List.getElem?_cons_zero, List.getElem?_cons_succ] at rk23 rk24)
    | (go_at_call 86; refine (HP.out _ (by first | assumption | exact Below.drew (by assumption)) (by first | assumption | exact Rg.Bk.drew (by assumption))).mono ?_; rintro e w4 ⟨rfl, b4, k4⟩; have rk43 := k4.cell 3; have rk44 := k4.cell 4; simp only [List.getElem?_cons_zero, List.getElem?_cons_succ] at rk43 rk44)
    | (go_at_call 94; refine (HH.out _ (by first | assumption | exact Below.drew (by assumption)) (by first | assumption | exact Rg.Bk.drew (by assumption))).mono ?_; rintro e w5 ⟨rfl, b5, k5⟩; have rk53 := k5.cell 3; have rk54 := k5.cell 4; simp only [List.getElem?_cons_zero, List.getElem?_cons_succ] at rk53 rk54))
  go_wp2
  all_goals
    go_ret2
    exact ⟨ret_se hO.out rfl, by first | assumption | exact Below.drew (by assumption)⟩
set_option maxHeartbeats 4000000 in
set_option maxRecDepth 100000 in
theorem rw_3 (h l z : Int) (d : ByteArray) (w : World)  (bw : Below w.heap.size w (w.alloc (.cells #[.int .i64 3, .int .i64 h, .int .i64 l, .int .i64 z, .string d] 80))) (kw : Rg.Bk w.heap.size [.int .i64 3, .int .i64 h, .int .i64 l, .int .i64 z, .string d] 80 (w.alloc (.cells #[.int .i64 3, .int .i64 h, .int .i64 l, .int .i64 z, .string d] 80)))
    (a1 : decide (h < 0) = false) (a2 : decide (7 < h) = false) (a3 : decide (l < 0) = false) (a4 : decide (7 < l) = false) (k : Nat) (hk : ((k : Int) == 0) = false) (a5 : decide (z ≤ (d.size : Int)) = false) (c m : Nat) (Bd Hd OUT : ByteArray) (hO : Hid (Hd ++ Bd = OUT)) (hH : Hd.size = 6) (hd : Bd.size ≤ 4096) (HC : Hid (∀ W, Below w.heap.size w W → Rg.Bk w.heap.size [.int .i64 3, .int .i64 h, .int .i64 l, .int .i64 z, .string d] 80 W → Calls Tryz.prog 93 #[.agg #[.int .i64 3, .int .i64 h, .int .i64 l, .int .i64 z, .string d]] W fun e w' => e = .returned (.int .i64 (c : Int)) ∧ Below w.heap.size w w' ∧ Rg.Bk w.heap.size [.int .i64 3, .int .i64 h, .int .i64 l, .int .i64 z, .string d] 80 w'))
    (HK : Hid (∀ W, Below w.heap.size w W → Rg.Bk w.heap.size [.int .i64 3, .int .i64 h, .int .i64 l, .int .i64 z, .string d] 80 W → Calls Tryz.prog 28 #[.int .i64 z] W fun e w' => e = .returned (.int .i64 (k : Int)) ∧ Below w.heap.size w w' ∧ Rg.Bk w.heap.size [.int .i64 3, .int .i64 h, .int .i64 l, .int .i64 z, .string d] 80 w'))
    (HF : Hid (∀ W, Below w.heap.size w W → Rg.Bk w.heap.size [.int .i64 3, .int .i64 h, .int .i64 l, .int .i64 z, .string d] 80 W → Calls Tryz.prog 95 #[.agg #[.int .i64 3, .int .i64 h, .int .i64 l, .int .i64 z, .string d]] W fun e w' => e = .returned (.string Bd) ∧ Below w.heap.size w w' ∧ Rg.Bk w.heap.size [.int .i64 3, .int .i64 h, .int .i64 l, .int .i64 z, .string d] 80 w'))
    (HP : Hid (∀ W, Below w.heap.size w W → Rg.Bk w.heap.size [.int .i64 3, .int .i64 h, .int .i64 l, .int .i64 z, .string d] 80 W → Calls Tryz.prog 86 #[.string Bd, .int .i64 c] W fun e w' => e = .returned (.int .i64 (m : Int)) ∧ Below w.heap.size w w' ∧ Rg.Bk w.heap.size [.int .i64 3, .int .i64 h, .int .i64 l, .int .i64 z, .string d] 80 w'))
    (HH : Hid (∀ W, Below w.heap.size w W → Rg.Bk w.heap.size [.int .i64 3, .int .i64 h, .int .i64 l, .int .i64 z, .string d] 80 W → Calls Tryz.prog 94 #[.int .i64 k, .int .i64 m, .int .i64 c] W fun e w' => e = .returned (.string Hd) ∧ Below w.heap.size w w' ∧ Rg.Bk w.heap.size [.int .i64 3, .int .i64 h, .int .i64 l, .int .i64 z, .string d] 80 w')) :
    Calls Tryz.prog 72 #[.agg #[.int .i64 3, .int .i64 h, .int .i64 l, .int .i64 z, .string d]] w fun e w' => e = .returned (.tuple #[.string OUT, .int .i64 0]) ∧ Below w.heap.size w w' := by
  go_enter Tryz.func72, Tryz.ntmps72
  go_wp2_with (first
    | (go_at_call 93; refine (HC.out _ (by first | assumption | exact Below.drew (by assumption)) (by first | assumption | exact Rg.Bk.drew (by assumption))).mono ?_; rintro e w1 ⟨rfl, b1, k1⟩; have c1 := k1.cell)
    | (go_at_call 28; refine (HK.out _ (by first | assumption | exact Below.drew (by assumption)) (by first | assumption | exact Rg.Bk.drew (by assumption))).mono ?_; rintro e w2 ⟨rfl, b2, k2⟩; have c2 := k2.cell)
    | (go_at_call 95; refine (HF.out _ (by first | assumption | exact Below.drew (by assumption)) (by first | assumption | exact Rg.Bk.drew (by assumption))).mono ?_; rintro e w6 ⟨rfl, b6, k6⟩; have c6 := k6.cell)
    | (go_at_call 86; refine (HP.out _ (by first | assumption | exact Below.drew (by assumption)) (by first | assumption | exact Rg.Bk.drew (by assumption))).mono ?_; rintro e w4 ⟨rfl, b4, k4⟩; have c4 := k4.cell)
    | (go_at_call 94; refine (HH.out _ (by first | assumption | exact Below.drew (by assumption)) (by first | assumption | exact Rg.Bk.drew (by assumption))).mono ?_; rintro e w5 ⟨rfl, b5, k5⟩; have c5 := k5.cell))
  all_goals
    go_ret2
    exact ⟨ret_se hO.out rfl, by first | assumption | exact Below.drew (by assumption)⟩
end Go.Proofs.YtfiffbohhhehkaaGreat
