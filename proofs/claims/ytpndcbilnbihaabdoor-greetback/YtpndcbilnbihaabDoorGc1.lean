/-
  Layer 9: CallText, the program's and the document's.
-/
import Derived.Test.YtpndcbilnbihaabDoorGe1
import Derived.Test.YtpndcbilnbihaabDoorGrS
import Derived.Test.YtpndcbilnbihaabDoorMathGc
namespace Go.Proofs.YtpndcbilnbihaabDoor
open Go.RowKit
namespace Gr
theorem sys_small {l : List UInt8} (h : Nam.system l = true) : l.length ≤ 7 := by
  by_cases h7 : 7 < l.length
  · rw [Nam.system_long h7] at h; cases h
  · omega
end Gr

set_option maxHeartbeats 1000000 in
set_option maxRecDepth 100000 in
theorem callText_any (y : ByteArray) (n : Int) (hy : y.size ≤ maxLen) (n0 : -9223372036854775808 ≤ n) (n1 : n ≤ 9223372036854775807) (w : World) (htab : Lib.TabIs Tryd.prog w "internal/strconv.uint64pow10" .u64 Lib.pow10Tab) :
    Calls Tryd.prog 8 #[.agg #[.string y, .int .i64 n]] w fun e w' => e = .returned (.tuple #[.string (Gr.callT y n).1, .int .i64 (Gr.callT y n).2]) ∧ Below w.heap.size w w' := by
  have H1 : Hid (∀ W, Calls Tryd.prog 17 #[.string y] W fun e w' => e = .returned (.bool (Nam.system y.data.toList)) ∧ W = w') := fun W => (system_any y W hy).mono fun e w' h => ⟨h.1, h.2.symm⟩
  have b0 := Rg.al1 w (.cells #[.string y, .int .i64 n] 23)
  cases hs : Nam.system y.data.toList with
  | false =>
    have hr : Hid (Gr.callT y n = (⟨#[]⟩, 11)) := by show _ = _; unfold Gr.callT; rw [if_pos hs]
    rw [hs] at H1
    clear hs
    go_enter Tryd.func8, Tryd.ntmps8
    go_wp2_with (go_at_call 17; refine (H1.out _).mono ?_; rintro e w' ⟨rfl, rfl⟩)
    go_ret2
    exact ⟨ret_se (by rw [hr.out]) (by rw [hr.out]), b0⟩
  | true =>
    have hz : y.size ≤ 7 := Gr.sys_small hs
    have hns : ¬ Nam.system y.data.toList = false := by rw [hs]; decide
    rw [hs] at H1
    by_cases hn : 0 ≤ n ∧ n ≤ 1099511627776
    · have hr : Hid (Gr.callT y n = (⟨#[83]⟩ ++ y ++ ⟨#[32, 45, 81]⟩ ++ ⟨(Lib.itoa n).toArray⟩, 0)) := by show _ = _; unfold Gr.callT; rw [if_neg hns, if_neg (fun h => h hn)]
      have d0 : decide (n < 0) = false := by simp only [decide_eq_false_iff_not]; omega
      have d1 : decide (1099511627776 < n) = false := by simp only [decide_eq_false_iff_not]; omega
      have HI : Hid (∀ W, Calls Tryd.prog 18 #[.int .i64 n] W fun e w' => e = .returned (.bool true) ∧ W = w') := fun W => (isNumber_yes n W hn).mono fun e w' h => ⟨h.1, h.2.symm⟩
      have hzt := itoa_small n n0 n1
      have kB : Hid (Rg.Bk w.heap.size [.string y, .int .i64 n] 23 (w.alloc (.cells #[.string y, .int .i64 n] 23))) := Rg.Bk.new rfl
      have HT : Hid (∀ W, Below w.heap.size w W → Rg.Bk w.heap.size [.string y, .int .i64 n] 23 W → Calls Tryd.prog 19 #[.int .i64 n] W fun e w' => e = .returned (.string ⟨(Lib.itoa n).toArray⟩) ∧ Below w.heap.size w w' ∧ w'.cell? ⟨w.heap.size, 0, none⟩ = some (.string y) ∧ w'.cell? ⟨w.heap.size, 1, none⟩ = some (.int .i64 n)) := fun W hW kW => (text_any n W n0 n1 (tab_below htab hW)).mono fun e w' h => ⟨h.1, hW.trans (h.2.mono hW.size), (kW.below h.2 kW.lt).cell 0, (kW.below h.2 kW.lt).cell 1⟩
      generalize (⟨(Lib.itoa n).toArray⟩ : ByteArray) = tx at *
      have z0 : ¬ 9223372036854775807 < 1 + y.size := by omega
      have z1 : ¬ 9223372036854775807 < 1 + y.size + 3 := by omega
      have z2 : ¬ 9223372036854775807 < 1 + y.size + 3 + tx.size := by omega
      clear hs hns hn
      go_enter Tryd.func8, Tryd.ntmps8
      go_upto_region 5 with (first | (go_at_call 17; refine (H1.out _).mono ?_; rintro e w' ⟨rfl, rfl⟩) | (go_at_call 18; refine (HI.out _).mono ?_; rintro e w' ⟨rfl, rfl⟩))
      replace b0 := Rg.hid b0
      generalize World.alloc _ _ = w1 at *
      have x0 : w1.cell? ⟨w.heap.size, 0, none⟩ = some (.string y) := kB.out.cell 0
      have x1 : w1.cell? ⟨w.heap.size, 1, none⟩ = some (.int .i64 n) := kB.out.cell 1
      go_region_held3 (fun w' => w'.cell? ⟨w.heap.size, 0, none⟩ = some (.string y) ∧ w'.cell? ⟨w.heap.size, 1, none⟩ = some (.int .i64 n)) (go_keep) (first
        | (go_at_call 19; refine (HT.out _ ?_ ?_).mono ?_; (first | exact b0.out | exact b0.out.drew); (first | exact kB.out | exact kB.out.drew); rintro e w2 ⟨rfl, b2, y0, y1⟩))
      all_goals
        go_wp2
        go_ret2
        exact ⟨ret_se (by rw [hr.out]) (by rw [hr.out]), (by first | exact b2 | exact b2.drew)⟩
    · have hr : Hid (Gr.callT y n = (⟨#[]⟩, 1)) := by show _ = _; unfold Gr.callT; rw [if_neg hns, if_pos hn]
      have HI : Hid (∀ W, Calls Tryd.prog 18 #[.int .i64 n] W fun e w' => e = .returned (.bool false) ∧ W = w') := fun W => (isNumber_no n W hn).mono fun e w' h => ⟨h.1, h.2.symm⟩
      clear hs hns hn
      go_enter Tryd.func8, Tryd.ntmps8
      go_wp2_with (first | (go_at_call 17; refine (H1.out _).mono ?_; rintro e w' ⟨rfl, rfl⟩) | (go_at_call 18; refine (HI.out _).mono ?_; rintro e w' ⟨rfl, rfl⟩))
      go_ret2
      exact ⟨ret_se (by rw [hr.out]) (by rw [hr.out]), b0⟩

end Go.Proofs.YtpndcbilnbihaabDoor
