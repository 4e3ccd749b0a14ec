/-
  Walks of layer 13's statements: ParcelWrites, ParcelReads.
-/
import Derived.Test.YteiajngfeiemkaaDoorPa9
import Derived.Test.YteiajngfeiemkaaDoorPa5
namespace Go.Proofs.YteiajngfeiemkaaDoor
open Go.RowKit
set_option maxHeartbeats 2000000 in
theorem pwrites_core (t : Int) (d : ByteArray) (w : World) (X : ByteArray) (E : Int) (big : Bool) (hd : decide ((9000 : Int) < (d.size : Int)) = big)
    (HW : Hid (∀ W, Below w.heap.size w W → Rg.Bk w.heap.size [.int .i64 t, .string d] 23 W → Calls Tryd.prog 10 #[.agg #[.int .i64 t, .string d]] W fun e w' => e = .returned (.tuple #[.string X, .int .i64 E]) ∧ Below w.heap.size w w' ∧ Rg.Bk w.heap.size [.int .i64 t, .string d] 23 w'))
    (HR : Hid (∀ W, Below w.heap.size w W → Rg.Bk w.heap.size [.int .i64 t, .string d] 23 W → Calls Tryd.prog 11 #[.agg #[.int .i64 t, .string d]] W fun e w' => e = .returned (.tuple #[.string X, .int .i64 E]) ∧ Below w.heap.size w w' ∧ Rg.Bk w.heap.size [.int .i64 t, .string d] 23 w'))
    (HA : Hid (∀ W, Below w.heap.size w W → Calls Tryd.prog 9 #[] W fun e w' => e = .returned (.bool true) ∧ Below w.heap.size w w')) :
    Calls Tryd.prog 3 #[.agg #[.int .i64 t, .string d]] w fun e w' => e = .returned (.bool true) ∧ Below w.heap.size w w' := by
  have bw := If.below1 w (.cells #[.int .i64 t, .string d] 23)
  have k0 : Rg.Bk w.heap.size [.int .i64 t, .string d] 23 (w.alloc (.cells #[.int .i64 t, .string d] 23)) := Rg.Bk.new rfl
  cases big with
  | true =>
    go_enter Tryd.func3, Tryd.ntmps3
    go_wp2_with (go_at_call 9; refine (HA.out _ bw).mono ?_; rintro e w2 ⟨rfl, b2⟩)
    go_ret
    exact ⟨rfl, b2⟩
  | false =>
    go_enter Tryd.func3, Tryd.ntmps3
    go_upto_region 3 with fail
    have c0 := k0.cell 0; have c1 := k0.cell 1; simp only [List.getElem?_cons_zero, List.getElem?_cons_succ] at c0 c1
    generalize w.alloc (.cells #[.int .i64 t, .string d] 23) = W at *
    generalize hB : w.heap.size = B at *
    replace hB := Rg.hid hB
    go_wp2_with (first
      | (go_at_call 10; refine (HW.out _ bw k0).mono ?_; rintro e w2 ⟨rfl, b2, k2⟩; have e0 := k2.cell 0; have e1 := k2.cell 1; simp only [List.getElem?_cons_zero, List.getElem?_cons_succ] at e0 e1)
      | (go_at_call 11; refine (HR.out _ b2 k2).mono ?_; rintro e w3 ⟨rfl, b3, k3⟩)
      | (go_at_call 9; refine (HA.out _ b3).mono ?_; rintro e w4 ⟨rfl, b4⟩))
    go_ret
    exact ⟨rfl, by rw [hB.out]; exact b4⟩
theorem awakeF (w : World) (htab : Lib.TabIs Tryd.prog w "internal/strconv.uint64pow10" .u64 Lib.pow10Tab) : Hid (∀ W, Below w.heap.size w W → Calls Tryd.prog 9 #[] W fun e w' => e = .returned (.bool true) ∧ Below w.heap.size w w') :=
  fun W hW => (pawake_any W (tab_below htab hW)).mono fun _ _ ⟨a, b⟩ => ⟨a, Rg.chain hW b⟩
theorem pwrites_walk (t : Int) (d : ByteArray) (_hd : d.size ≤ maxLen) (w : World) (htab : Lib.TabIs Tryd.prog w "internal/strconv.uint64pow10" .u64 Lib.pow10Tab) :
    Calls Tryd.prog 3 #[.agg #[.int .i64 t, .string d]] w fun e w' => e = .returned (.bool true) ∧ Below w.heap.size w w' :=
  pwrites_core t d w _ _ _ rfl (keepF w (fun W => pwrite_any t d W)) (keepF w (fun W => rwrite_any t d W)) (awakeF w htab)

set_option maxHeartbeats 2000000 in
theorem preads_core (s : ByteArray) (w : World) (t : Int) (d : ByteArray) (n E : Int) (big : Bool) (hd : decide ((9000 : Int) < (s.size : Int)) = big)
    (HW : Hid (∀ W, Below w.heap.size w W → Calls Tryd.prog 12 #[.string s] W fun e w' => e = .returned (.tuple #[.agg #[.int .i64 t, .string d], .int .i64 n, .int .i64 E]) ∧ Below w.heap.size w w'))
    (HR : Hid (∀ W, Calls Tryd.prog 13 #[.string s] W fun e w' => e = .returned (.tuple #[.agg #[.int .i64 t, .string d], .int .i64 n, .int .i64 E]) ∧ Below W.heap.size W w'))
    (HA : Hid (∀ W, Below w.heap.size w W → Calls Tryd.prog 9 #[] W fun e w' => e = .returned (.bool true) ∧ Below w.heap.size w w')) :
    Calls Tryd.prog 4 #[.string s] w fun e w' => e = .returned (.bool true) ∧ Below w.heap.size w w' := by
  cases big with
  | true =>
    go_enter Tryd.func4, Tryd.ntmps4
    go_wp2_with (go_at_call 9; refine (HA.out _ (Below.refl _ _)).mono ?_; rintro e w2 ⟨rfl, b2⟩)
    go_ret
    exact ⟨rfl, b2⟩
  | false =>
    go_enter Tryd.func4, Tryd.ntmps4
    go_upto_region 4 with (go_at_call 12; refine (HW.out _ (Below.refl _ _)).mono ?_; rintro e w1 ⟨rfl, b1⟩)
    have b2 := If.more b1 (.cells #[.int .i64 t, .string d] 23)
    have k2 : Rg.Bk w1.heap.size [.int .i64 t, .string d] 23 (w1.alloc (.cells #[.int .i64 t, .string d] 23)) := Rg.Bk.new rfl
    generalize w1.alloc _ = W2 at *
    generalize w1.heap.size = B at *
    go_upto_region 5 with (go_at_call 13; refine (HR.out _).mono ?_; rintro e w3 ⟨rfl, b3⟩)
    have b4 := Rg.chain b2 b3
    have b5 := If.more b4 (.cells #[.int .i64 t, .string d] 23)
    have k4 : Rg.Bk B [.int .i64 t, .string d] 23 (w3.alloc (.cells #[.int .i64 t, .string d] 23)) := (k2.below b3 k2.lt).old _
    have k5 : Rg.Bk w3.heap.size [.int .i64 t, .string d] 23 (w3.alloc (.cells #[.int .i64 t, .string d] 23)) := Rg.Bk.new rfl
    have c0 := k4.cell 0; have c1 := k4.cell 1; have c2 := k5.cell 0; have c3 := k5.cell 1; simp only [List.getElem?_cons_zero, List.getElem?_cons_succ] at c0 c1 c2 c3
    generalize w3.alloc _ = W4 at *
    generalize w3.heap.size = B2 at *
    go_wp2_with (go_at_call 9; refine (HA.out _ b5).mono ?_; rintro e w6 ⟨rfl, b6⟩)
    go_ret
    exact ⟨rfl, b6⟩
theorem preads_walk (s : ByteArray) (hs : s.size ≤ maxLen) (w : World) (htab : Lib.TabIs Tryd.prog w "internal/strconv.uint64pow10" .u64 Lib.pow10Tab) :
    Calls Tryd.prog 4 #[.string s] w fun e w' => e = .returned (.bool true) ∧ Below w.heap.size w w' := by
  have H1 := fun W => pread_any s hs W
  have H2 := fun W => rread_any s hs W
  cases h : Pa.read s.data.toList with
  | error e =>
    rw [h] at H1 H2
    exact preads_core s w _ _ _ _ _ rfl (upF w H1) H2 (awakeF w htab)
  | ok x =>
    rw [h] at H1 H2
    exact preads_core s w _ _ _ _ _ rfl (upF w H1) H2 (awakeF w htab)
end Go.Proofs.YteiajngfeiemkaaDoor
