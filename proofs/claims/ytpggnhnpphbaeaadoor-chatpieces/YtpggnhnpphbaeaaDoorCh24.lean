/-
  Layer 8: the statements' texts.
-/
import Derived.Test.YtpggnhnpphbaeaaDoorCh23
import Derived.Test.YtpggnhnpphbaeaaDoorMathE8
namespace Go.Proofs.YtpggnhnpphbaeaaDoor
open Go.RowKit

set_option maxHeartbeats 1000000 in
set_option maxRecDepth 100000 in
theorem texts_any (a : Option Addr) (c : Nat) (l : List ByteArray) (w : World) (hr : Row0 strE w a l) :
    Calls Tryd.prog 9 #[.slice a l.length c] w fun e w' => e = .returned (.int .i64 (Ch.tx l : Nat)) ∧ Below w.heap.size w w' := by
  obtain ⟨N, hN⟩ : ∃ N, N = l.length := ⟨_, rfl⟩
  unfold Ch.tx
  rw [← hN]
  by_cases h4 : 400 < N
  · have d0 : decide ((400 : Int) < (N : Int)) = true := by simp only [decide_eq_true_eq]; omega
    rw [if_pos h4]
    clear hr hN
    go_enter Tryd.func9, Tryd.ntmps9
    go_wp2
    go_ret
    exact ⟨rfl, Below.refl _ _⟩
  have d0 : decide ((400 : Int) < (N : Int)) = false := by simp only [decide_eq_false_iff_not]; omega
  rw [if_neg h4]
  obtain ⟨T, hT⟩ : ∃ T, Ch.txg l 0 = T := ⟨_, rfl⟩
  rw [hT]
  replace hN := Rg.hid hN
  replace hr := Rg.hid hr
  replace hT := Rg.hid hT
  go_enter Tryd.func9, Tryd.ntmps9
  go_wp2
  go_loopw [3, 11] (fun vn vi wr => ∃ (i n : Nat), i ≤ N ∧ vi = .int .i64 i ∧ vn = .int .i64 n ∧ n ≤ i * 3001 ∧ Hid (Ch.txg (l.drop i) n = T) ∧ Below w.heap.size w wr) (fun _ vi _ => N - (intOf vi).toNat)
  case atStart => exact ⟨0, 0, Nat.zero_le _, rfl, rfl, Nat.zero_le _, hT, Below.refl _ _⟩
  case round =>
    obtain ⟨i, n, hin, rfl, rfl, hni, hG, hbw⟩ := hrel
    clear hT
    by_cases hlt : i < N
    · have hil : i < l.length := by rw [← hN.out]; exact hlt
      obtain ⟨b1, o1, rfl⟩ := row_place (hr.out.row hil) hil
      have c1 : wr.cell? ⟨b1, o1 + i, none⟩ = some (.string l[i]) := srow_cell ((hr.out.row hil).below hbw) hil
      have hz0 : (0 : Int) ≤ (i : Int) := by omega
      have hz1 : (i : Int) < (N : Int) := by omega
      have hG2 := hG.out
      rw [List.drop_eq_getElem_cons hil, Ch.txg] at hG2
      generalize l[i] = x at *
      clear hG
      by_cases h3 : 3000 < x.size
      · have d1 : decide ((3000 : Int) < (x.size : Int)) = true := by simp only [decide_eq_true_eq]; omega
        rw [if_pos h3] at hG2
        subst hG2
        go_wp2
        go_ret
        exact ⟨rfl, hbw⟩
      · have d1 : decide ((3000 : Int) < (x.size : Int)) = false := by simp only [decide_eq_false_iff_not]; omega
        rw [if_neg h3] at hG2
        replace hG2 := Rg.hid hG2
        obtain ⟨k, hk⟩ : ∃ k, k = x.size := ⟨_, rfl⟩
        have hk2 : k ≤ 3000 := by omega
        go_wp2
        go_roundw
        case rel => exact ⟨i + 1, n + (x.size + 1), by omega, by go_num, by go_num, by omega, hG2, hbw⟩
        case measure => simp [intOf]; omega
    · obtain rfl : i = N := by omega
      have hG2 := hG.out
      rw [List.drop_eq_nil_of_le (by rw [← hN.out]; exact Nat.le_refl _), Ch.txg] at hG2
      subst hG2
      go_wp2
      go_ret
      exact ⟨rfl, hbw⟩
end Go.Proofs.YtpggnhnpphbaeaaDoor
