/-
  Layer 7: the statements' ints and same.
-/
import Derived.Test.YtalleocmnnnchaaLn20
namespace Go.Proofs.Ytalleocmnnnchaa
open Go.RowKit

set_option maxHeartbeats 1000000 in
set_option maxRecDepth 100000 in
theorem ints_any (a : Option Addr) (ca : Nat) (l : List Int) (b : Option Addr) (cb : Nat) (q : List Int) (w : World) (hl : l.length ≤ 1000000000) (hrl : IRow w a l) (hrq : IRow w b q) :
    Calls Try.prog 32 #[.slice a l.length ca, .slice b q.length cb] w fun e w' => VPost (.bool (decide (l = q))) w e w' := by
  by_cases hlq : l.length = q.length
  case neg =>
    have hne : decide (l = q) = false := by simp only [decide_eq_false_iff_not]; intro h; exact hlq (by rw [h])
    rw [hne]
    have d0 : ((l.length : Int) == (q.length : Int)) = false := by simp; omega
    generalize l.length = N at *
    generalize q.length = M at *
    go_enter Try.func32, Try.ntmps32
    go_wp2
    go_ret
    exact ⟨rfl, Below.refl _ _⟩
  case pos =>
  rw [← hlq]
  obtain ⟨N, hN⟩ : ∃ N, N = l.length := ⟨_, rfl⟩
  rw [← hN] at hl hlq ⊢
  replace hN := Rg.hid hN
  replace hlq := Rg.hid hlq
  obtain ⟨B, hB⟩ : ∃ B, B = decide (l = q) := ⟨_, rfl⟩
  rw [← hB]
  replace hB := Rg.hid hB
  go_enter Try.func32, Try.ntmps32
  go_wp2
  go_loopw [13] (fun vi wr => ∃ (i : Nat), i ≤ N ∧ vi = .int .i64 i ∧ Hid (l.take i = q.take i) ∧ Below w.heap.size w wr) (fun vi _ => N - (intOf vi).toNat)
  case atStart => exact ⟨0, Nat.zero_le _, rfl, rfl, Below.refl _ _⟩
  case round =>
    obtain ⟨i, hin, rfl, heq, hbw⟩ := hrel
    by_cases hlt : i < N
    · have hil : i < l.length := by rw [← hN.out]; exact hlt
      have hiq : i < q.length := by rw [← hlq.out]; exact hlt
      obtain ⟨b1, o1, rfl, -, -⟩ : ∃ b o, a = some ⟨b, o, none⟩ ∧ b < w.heap.size ∧ Rg.At w b o (intE.flat l) := by
        rcases hrl.1 with ⟨h, h'⟩ | h
        · rw [h'] at hil; simp at hil
        · exact h
      obtain ⟨b2, o2, rfl, -, -⟩ : ∃ b' o, b = some ⟨b', o, none⟩ ∧ b' < w.heap.size ∧ Rg.At w b' o (intE.flat q) := by
        rcases hrq.1 with ⟨h, h'⟩ | h
        · rw [h'] at hiq; simp at hiq
        · exact h
      have c1 : wr.cell? ⟨b1, o1 + i, none⟩ = some (.int .i64 l[i]) := (hrl.below hbw).cell hil
      have c2 : wr.cell? ⟨b2, o2 + i, none⟩ = some (.int .i64 q[i]) := (hrq.below hbw).cell hiq
      have hz0 : (0 : Int) ≤ (i : Int) := by omega
      have hz1 : (i : Int) < (N : Int) := by omega
      by_cases he : l[i] = q[i]
      · have d0 : (l[i] == q[i]) = true := by simp [he]
        have heq2 : Hid (l.take (i + 1) = q.take (i + 1)) := by
          show _ = _
          rw [List.take_succ_eq_append_getElem hil, List.take_succ_eq_append_getElem hiq, heq.out, he]
        clear he heq
        generalize l[i] = x at *
        generalize q[i] = y at *
        have hbd := hbw.drew
        go_upto_region 6 with fail
        go_region_held3 (fun w' => w'.cell? ⟨b1, o1 + i, none⟩ = some (.int .i64 x) ∧ w'.cell? ⟨b2, o2 + i, none⟩ = some (.int .i64 y)) (go_keep) (fail)
        clear c1 c2
        go_wp2
        go_roundw
        case rel => exact ⟨i + 1, by omega, by go_num, heq2, (by first | exact hbd | exact hbw)⟩
        case measure => simp [intOf]; omega
      · have d0 : (l[i] == q[i]) = false := by simp [he]
        have hne : decide (l = q) = false := by
          simp only [decide_eq_false_iff_not]
          intro h
          subst h
          exact he rfl
        have hB2 : B = false := hB.out.trans hne
        clear he heq hne
        generalize l[i] = x at *
        generalize q[i] = y at *
        have hbd := hbw.drew
        go_upto_region 6 with fail
        go_region_held3 (fun w' => w'.cell? ⟨b1, o1 + i, none⟩ = some (.int .i64 x) ∧ w'.cell? ⟨b2, o2 + i, none⟩ = some (.int .i64 y)) (go_keep) (fail)
        clear c1 c2
        go_wp2
        go_ret
        exact ⟨ret_bool hB2.symm, (by first | exact hbd | exact hbw)⟩
    · obtain rfl : i = N := by omega
      have hyes : decide (l = q) = true := by
        simp only [decide_eq_true_eq]
        have := heq.out
        rwa [List.take_of_length_le (by rw [← hN.out]; exact Nat.le_refl _), List.take_of_length_le (by rw [← hlq.out]; exact Nat.le_refl _)] at this
      have hB2 : B = true := hB.out.trans hyes
      go_wp2
      go_ret
      exact ⟨ret_bool hB2.symm, hbw⟩
end Go.Proofs.Ytalleocmnnnchaa
