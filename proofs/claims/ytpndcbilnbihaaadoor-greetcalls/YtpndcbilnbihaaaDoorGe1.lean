/-
  Layer 9: Reply, the program's and the document's.
-/
import Derived.Test.YtpndcbilnbihaaaDoorGs1
import Derived.Test.YtpndcbilnbihaaaDoorTxt
namespace Go.Proofs.YtpndcbilnbihaaaDoor
open Go.RowKit

theorem isNumber_yes (n : Int) (w : World) (h : 0 ≤ n ∧ n ≤ 1099511627776) : Calls Tryd.prog 21 #[.int .i64 n] w fun e w' => e = .returned (.bool true) ∧ w' = w := by
  have d0 : decide (0 ≤ n) = true := by simp only [decide_eq_true_eq]; exact h.1
  have d1 : decide (n ≤ 1099511627776) = true := by simp only [decide_eq_true_eq]; exact h.2
  clear h
  go_enter Tryd.func21, Tryd.ntmps21
  go_wp2
  go_ret
  exact ⟨rfl, rfl⟩
theorem isNumber_no (n : Int) (w : World) (h : ¬ (0 ≤ n ∧ n ≤ 1099511627776)) : Calls Tryd.prog 21 #[.int .i64 n] w fun e w' => e = .returned (.bool false) ∧ w' = w := by
  by_cases h0 : 0 ≤ n
  · have d0 : decide (0 ≤ n) = true := by simp only [decide_eq_true_eq]; exact h0
    have d1 : decide (n ≤ 1099511627776) = false := by simp only [decide_eq_false_iff_not]; omega
    clear h
    go_enter Tryd.func21, Tryd.ntmps21
    go_wp2
    go_ret
    exact ⟨rfl, rfl⟩
  · have d0 : decide (0 ≤ n) = false := by simp only [decide_eq_false_iff_not]; exact h0
    clear h
    go_enter Tryd.func21, Tryd.ntmps21
    go_wp2
    go_ret
    exact ⟨rfl, rfl⟩
theorem itoa_small (n : Int) (h0 : -9223372036854775808 ≤ n) (h1 : n ≤ 9223372036854775807) : (⟨(Lib.itoa n).toArray⟩ : ByteArray).size ≤ 21 := by
  show (Lib.itoa n).toArray.size ≤ 21
  rw [List.size_toArray]
  exact Lib.itoa_length_le n h0 h1
namespace Gr
/-- P9.5 -/
def reply (why n : Int) : ByteArray × Int :=
  if ¬ (0 ≤ n ∧ n ≤ 1099511627776) ∨ (n ≠ 0 ∧ why ≠ 13) then (⟨#[]⟩, 1)
  else if why = 0 then (⟨#[82, 79, 75]⟩, 0)
  else if why = 10 then (⟨#[82, 76, 67, 75]⟩, 0)
  else if why = 12 then (⟨#[82, 76, 79, 71, 73, 78]⟩, 0)
  else if why = 13 then (⟨#[82, 66, 65, 68, 83, 69, 81, 32]⟩ ++ ⟨(Lib.itoa n).toArray⟩, 0)
  else (⟨#[]⟩, 1)
end Gr

set_option maxHeartbeats 1000000 in
theorem reply_any (why n : Int) (n0 : -9223372036854775808 ≤ n) (n1 : n ≤ 9223372036854775807) (w : World) (htab : Lib.TabIs Tryd.prog w "internal/strconv.uint64pow10" .u64 Lib.pow10Tab) :
    Calls Tryd.prog 11 #[.int .i64 why, .int .i64 n] w fun e w' => e = .returned (.tuple #[.string (Gr.reply why n).1, .int .i64 (Gr.reply why n).2]) ∧ Below w.heap.size w w' := by
  have BB := Below.refl w.heap.size w
  by_cases hn : 0 ≤ n ∧ n ≤ 1099511627776
  · have d0 : decide (0 ≤ n) = true := by simp only [decide_eq_true_eq]; exact hn.1
    have d1 : decide (n ≤ 1099511627776) = true := by simp only [decide_eq_true_eq]; exact hn.2
    have d2 : decide (n < 0) = false := by simp only [decide_eq_false_iff_not]; omega
    have d3 : decide (1099511627776 < n) = false := by simp only [decide_eq_false_iff_not]; omega
    have HI : Hid (∀ W, Calls Tryd.prog 21 #[.int .i64 n] W fun e w' => e = .returned (.bool true) ∧ W = w') := fun W => (isNumber_yes n W hn).mono fun e w' h => ⟨h.1, h.2.symm⟩
    by_cases h13 : why = 13
    · subst h13
      have hr : Hid (Gr.reply 13 n = (⟨#[82, 66, 65, 68, 83, 69, 81, 32]⟩ ++ ⟨(Lib.itoa n).toArray⟩, 0)) := by show _ = _; unfold Gr.reply; rw [if_neg (fun h => h.elim (fun h => h hn) (fun h => h.2 rfl)), if_neg (by decide), if_neg (by decide), if_neg (by decide), if_pos rfl]
      have HT : Hid (∀ W, Below w.heap.size w W → Calls Tryd.prog 22 #[.int .i64 n] W fun e w' => e = .returned (.string ⟨(Lib.itoa n).toArray⟩) ∧ Below W.heap.size W w') := fun W hW => text_any n W n0 n1 (tab_below htab hW)
      have hz := itoa_small n (by omega) (by omega)
      generalize (⟨(Lib.itoa n).toArray⟩ : ByteArray) = tx at *
      have hz2 : tx.size ≤ 21 := hz
      have e0 : (n != 0) = true ∨ (n != 0) = false := by cases (n != 0) <;> simp
      clear hz hn
      rcases e0 with e0 | e0
      · go_enter Tryd.func11, Tryd.ntmps11
        go_wp2_with (go_at_call 21; refine (HI.out _).mono ?_; rintro e w' ⟨rfl, rfl⟩)
        go_wp2_with (go_at_call 22; refine (HT.out _ BB).mono ?_; rintro e w1 ⟨rfl, b1⟩)
        go_ret2
        exact ⟨ret_se (by rw [hr.out]) (by rw [hr.out]), b1⟩
      · go_enter Tryd.func11, Tryd.ntmps11
        go_wp2_with (go_at_call 21; refine (HI.out _).mono ?_; rintro e w' ⟨rfl, rfl⟩)
        go_wp2_with (go_at_call 22; refine (HT.out _ BB).mono ?_; rintro e w1 ⟨rfl, b1⟩)
        go_ret2
        exact ⟨ret_se (by rw [hr.out]) (by rw [hr.out]), b1⟩
    · have c13 : (why == 13) = false := by rw [beq_eq_false_iff_ne]; exact h13
      have c13' : (why != 13) = true := by rw [bne_iff_ne]; exact h13
      by_cases hz : n = 0
      · subst hz
        by_cases k0 : why = 0
        · subst k0
          have hr : Hid (Gr.reply 0 0 = (⟨#[82, 79, 75]⟩, 0)) := by show _ = _; unfold Gr.reply; rfl
          go_enter Tryd.func11, Tryd.ntmps11
          go_wp2_with (go_at_call 21; refine (HI.out _).mono ?_; rintro e w' ⟨rfl, rfl⟩)
          go_ret2
          exact ⟨ret_se (by rw [hr.out]) (by rw [hr.out]), Below.refl _ _⟩
        · have q0 : (why == 0) = false := by rw [beq_eq_false_iff_ne]; exact k0
          by_cases k10 : why = 10
          · subst k10
            have hr : Hid (Gr.reply 10 0 = (⟨#[82, 76, 67, 75]⟩, 0)) := by show _ = _; unfold Gr.reply; rfl
            go_enter Tryd.func11, Tryd.ntmps11
            go_wp2_with (go_at_call 21; refine (HI.out _).mono ?_; rintro e w' ⟨rfl, rfl⟩)
            go_ret2
            exact ⟨ret_se (by rw [hr.out]) (by rw [hr.out]), Below.refl _ _⟩
          · have q10 : (why == 10) = false := by rw [beq_eq_false_iff_ne]; exact k10
            by_cases k12 : why = 12
            · subst k12
              have hr : Hid (Gr.reply 12 0 = (⟨#[82, 76, 79, 71, 73, 78]⟩, 0)) := by show _ = _; unfold Gr.reply; rfl
              go_enter Tryd.func11, Tryd.ntmps11
              go_wp2_with (go_at_call 21; refine (HI.out _).mono ?_; rintro e w' ⟨rfl, rfl⟩)
              go_ret2
              exact ⟨ret_se (by rw [hr.out]) (by rw [hr.out]), Below.refl _ _⟩
            · have q12 : (why == 12) = false := by rw [beq_eq_false_iff_ne]; exact k12
              have hr : Hid (Gr.reply why 0 = (⟨#[]⟩, 1)) := by show _ = _; unfold Gr.reply; rw [if_neg (fun h => h.elim (fun h => h hn) (fun h => h.1 rfl)), if_neg k0, if_neg k10, if_neg k12, if_neg h13]
              clear hn
              go_enter Tryd.func11, Tryd.ntmps11
              go_wp2_with (go_at_call 21; refine (HI.out _).mono ?_; rintro e w' ⟨rfl, rfl⟩)
              go_ret2
              exact ⟨ret_se (by rw [hr.out]) (by rw [hr.out]), Below.refl _ _⟩
      · have e0 : (n != 0) = true := by rw [bne_iff_ne]; exact hz
        have hr : Hid (Gr.reply why n = (⟨#[]⟩, 1)) := by show _ = _; unfold Gr.reply; rw [if_pos (Or.inr ⟨hz, h13⟩)]
        clear hn hz h13
        go_enter Tryd.func11, Tryd.ntmps11
        go_wp2_with (go_at_call 21; refine (HI.out _).mono ?_; rintro e w' ⟨rfl, rfl⟩)
        go_ret2
        exact ⟨ret_se (by rw [hr.out]) (by rw [hr.out]), Below.refl _ _⟩
  · have hr : Hid (Gr.reply why n = (⟨#[]⟩, 1)) := by show _ = _; unfold Gr.reply; rw [if_pos (Or.inl hn)]
    have HI : Hid (∀ W, Calls Tryd.prog 21 #[.int .i64 n] W fun e w' => e = .returned (.bool false) ∧ W = w') := fun W => (isNumber_no n W hn).mono fun e w' h => ⟨h.1, h.2.symm⟩
    clear hn
    go_enter Tryd.func11, Tryd.ntmps11
    go_wp2_with (go_at_call 21; refine (HI.out _).mono ?_; rintro e w' ⟨rfl, rfl⟩)
    go_ret2
    exact ⟨ret_se (by rw [hr.out]) (by rw [hr.out]), Below.refl _ _⟩

set_option maxHeartbeats 1000000 in
theorem refReply_any (why n : Int) (n0 : -9223372036854775808 ≤ n) (n1 : n ≤ 9223372036854775807) (w : World) :
    Calls Tryd.prog 12 #[.int .i64 why, .int .i64 n] w fun e w' => e = .returned (.tuple #[.string (Gr.reply why n).1, .int .i64 (Gr.reply why n).2]) ∧ Below w.heap.size w w' := by
  have BB := Below.refl w.heap.size w
  by_cases hn : 0 ≤ n ∧ n ≤ 1099511627776
  · have d0 : decide (0 ≤ n) = true := by simp only [decide_eq_true_eq]; exact hn.1
    have d1 : decide (n ≤ 1099511627776) = true := by simp only [decide_eq_true_eq]; exact hn.2
    have d2 : decide (n < 0) = false := by simp only [decide_eq_false_iff_not]; omega
    have d3 : decide (1099511627776 < n) = false := by simp only [decide_eq_false_iff_not]; omega
    by_cases h13 : why = 13
    · subst h13
      have hr : Hid (Gr.reply 13 n = (⟨#[82, 66, 65, 68, 83, 69, 81, 32]⟩ ++ ⟨(Lib.itoa n).toArray⟩, 0)) := by show _ = _; unfold Gr.reply; rw [if_neg (fun h => h.elim (fun h => h hn) (fun h => h.2 rfl)), if_neg (by decide), if_neg (by decide), if_neg (by decide), if_pos rfl]
      have HT : Hid (∀ W, Below w.heap.size w W → Calls Tryd.prog 24 #[.int .i64 n] W fun e w' => e = .returned (.string ⟨(Lib.itoa n).toArray⟩) ∧ Below W.heap.size W w') := fun W hW => refText_any n W n0 n1
      have hz := itoa_small n (by omega) (by omega)
      generalize (⟨(Lib.itoa n).toArray⟩ : ByteArray) = tx at *
      have hz2 : tx.size ≤ 21 := hz
      have e0 : (n != 0) = true ∨ (n != 0) = false := by cases (n != 0) <;> simp
      clear hz hn
      rcases e0 with e0 | e0
      · go_enter Tryd.func12, Tryd.ntmps12
        go_wp2_with (go_at_call 24; refine (HT.out _ BB).mono ?_; rintro e w1 ⟨rfl, b1⟩)
        go_ret2
        exact ⟨ret_se (by rw [hr.out]) (by rw [hr.out]), b1⟩
      · go_enter Tryd.func12, Tryd.ntmps12
        go_wp2_with (go_at_call 24; refine (HT.out _ BB).mono ?_; rintro e w1 ⟨rfl, b1⟩)
        go_ret2
        exact ⟨ret_se (by rw [hr.out]) (by rw [hr.out]), b1⟩
    · have c13 : (why == 13) = false := by rw [beq_eq_false_iff_ne]; exact h13
      have c13' : (why != 13) = true := by rw [bne_iff_ne]; exact h13
      by_cases hz : n = 0
      · subst hz
        by_cases k0 : why = 0
        · subst k0
          have hr : Hid (Gr.reply 0 0 = (⟨#[82, 79, 75]⟩, 0)) := by show _ = _; unfold Gr.reply; rfl
          go_enter Tryd.func12, Tryd.ntmps12
          go_wp2
          go_ret2
          exact ⟨ret_se (by rw [hr.out]) (by rw [hr.out]), Below.refl _ _⟩
        · have q0 : (why == 0) = false := by rw [beq_eq_false_iff_ne]; exact k0
          by_cases k10 : why = 10
          · subst k10
            have hr : Hid (Gr.reply 10 0 = (⟨#[82, 76, 67, 75]⟩, 0)) := by show _ = _; unfold Gr.reply; rfl
            go_enter Tryd.func12, Tryd.ntmps12
            go_wp2
            go_ret2
            exact ⟨ret_se (by rw [hr.out]) (by rw [hr.out]), Below.refl _ _⟩
          · have q10 : (why == 10) = false := by rw [beq_eq_false_iff_ne]; exact k10
            by_cases k12 : why = 12
            · subst k12
              have hr : Hid (Gr.reply 12 0 = (⟨#[82, 76, 79, 71, 73, 78]⟩, 0)) := by show _ = _; unfold Gr.reply; rfl
              go_enter Tryd.func12, Tryd.ntmps12
              go_wp2
              go_ret2
              exact ⟨ret_se (by rw [hr.out]) (by rw [hr.out]), Below.refl _ _⟩
            · have q12 : (why == 12) = false := by rw [beq_eq_false_iff_ne]; exact k12
              have hr : Hid (Gr.reply why 0 = (⟨#[]⟩, 1)) := by show _ = _; unfold Gr.reply; rw [if_neg (fun h => h.elim (fun h => h hn) (fun h => h.1 rfl)), if_neg k0, if_neg k10, if_neg k12, if_neg h13]
              clear hn
              go_enter Tryd.func12, Tryd.ntmps12
              go_wp2
              go_ret2
              exact ⟨ret_se (by rw [hr.out]) (by rw [hr.out]), Below.refl _ _⟩
      · have e0 : (n != 0) = true := by rw [bne_iff_ne]; exact hz
        have hr : Hid (Gr.reply why n = (⟨#[]⟩, 1)) := by show _ = _; unfold Gr.reply; rw [if_pos (Or.inr ⟨hz, h13⟩)]
        clear hn hz h13
        go_enter Tryd.func12, Tryd.ntmps12
        go_wp2
        go_ret2
        exact ⟨ret_se (by rw [hr.out]) (by rw [hr.out]), Below.refl _ _⟩
  · have hr : Hid (Gr.reply why n = (⟨#[]⟩, 1)) := by show _ = _; unfold Gr.reply; rw [if_pos (Or.inl hn)]
    by_cases hneg : n < 0
    · have d2 : decide (n < 0) = true := by simp only [decide_eq_true_eq]; exact hneg
      clear hn
      go_enter Tryd.func12, Tryd.ntmps12
      go_wp2
      go_ret2
      exact ⟨ret_se (by rw [hr.out]) (by rw [hr.out]), Below.refl _ _⟩
    · have d2 : decide (n < 0) = false := by simp only [decide_eq_false_iff_not]; exact hneg
      have d3 : decide (1099511627776 < n) = true := by simp only [decide_eq_true_eq]; omega
      clear hn
      go_enter Tryd.func12, Tryd.ntmps12
      go_wp2
      go_ret2
      exact ⟨ret_se (by rw [hr.out]) (by rw [hr.out]), Below.refl _ _⟩
end Go.Proofs.YtpndcbilnbihaaaDoor
