/-
  Walks of layer 5: commands; the document's user and word.
-/
import Derived.Test.YtgcbaflaidehnaaDoorJb1
namespace Go.Proofs.YtgcbaflaidehnaaDoor
open Go.RowKit

namespace Job
theorem hp_blank (l : List UInt8) : Lib.hasPrefix l [32] = (l.head? == some 32) := by
  cases l with
  | nil => rfl
  | cons a r =>
    simp only [Lib.hasPrefix, List.isPrefixOf, List.head?_cons, Bool.and_true]
    by_cases h : a = 32
    · subst h; rfl
    · have h1 : ((32 : UInt8) == a) = false := by simp; exact fun c => h c.symm
      rw [h1]; symm; simpa using h
theorem hs_blank (l : List UInt8) : Lib.hasSuffix l [32] = (l.getLast? == some 32) := by
  have := hp_blank l.reverse
  unfold Lib.hasPrefix at this
  unfold Lib.hasSuffix List.isSuffixOf
  rw [List.head?_reverse] at this
  exact this
end Job

theorem prefix_blank (s : ByteArray) (w : World) : Calls Tryd.prog 46 #[.string s, .string ⟨#[32]⟩] w fun e w' => e = .returned (.bool (s.data.toList.head? == some 32)) ∧ w' = w := by
  refine (Tryd.strings_HasPrefix s ⟨#[32]⟩ w).mono ?_
  rintro e w' ⟨rfl, rfl⟩
  exact ⟨ret_bool (Job.hp_blank _), rfl⟩
theorem suffix_blank (s : ByteArray) (w : World) (hs : s.size ≤ maxLen) : Calls Tryd.prog 49 #[.string s, .string ⟨#[32]⟩] w fun e w' => e = .returned (.bool (s.data.toList.getLast? == some 32)) ∧ w' = w := by
  refine (Tryd.strings_HasSuffix s ⟨#[32]⟩ w (by unfold maxLen at hs; omega)).mono ?_
  rintro e w' ⟨rfl, rfl⟩
  exact ⟨ret_bool (Job.hs_blank _), rfl⟩

namespace Job
theorem wrd_at {s : ByteArray} (h : s.data.toList.all okw = true) : wrd s.data.toList = (!(s.data.toList.head? == some 32) && !(s.data.toList.getLast? == some 32) && !(s.toList == []) && decide ((s.size : Int) ≤ 60)) := by
  unfold wrd
  rw [h, tl_eq, Oct.len_eq]
  have e1 : decide (1 ≤ s.size) = !(s.data.toList == []) := by rw [← Oct.len_eq]; cases s.data.toList <;> simp
  have e2 : decide ((s.size : Int) ≤ 60) = decide (s.size ≤ 60) := by simp; omega
  rw [e1, e2, Bool.true_and]
end Job

set_option maxHeartbeats 1000000 in
theorem isCommand_any (s : ByteArray) (w : World) (hs : s.size ≤ maxLen) :
    Calls Tryd.prog 38 #[.string s] w fun e w' => e = .returned (.bool (Job.wrd s.data.toList)) ∧ w' = w := by
  have HP : Hid (∀ w, Calls Tryd.prog 46 #[.string s, .string ⟨#[32]⟩] w fun e w' => e = .returned (.bool (s.data.toList.head? == some 32)) ∧ w' = w) := prefix_blank s
  have HS : Hid (∀ w, Calls Tryd.prog 49 #[.string s, .string ⟨#[32]⟩] w fun e w' => e = .returned (.bool (s.data.toList.getLast? == some 32)) ∧ w' = w) := fun w => suffix_blank s w hs
  unfold maxLen at hs
  go_enter Tryd.func38, Tryd.ntmps38
  go_wp2
  go_loop [6] (fun i => ∃ k : Nat, k ≤ s.size ∧ i = .int .i64 k ∧ Hid ((s.data.toList.take k).all Job.okw = true)) (fun i => s.size - (intOf i).toNat)
  case atStart => exact ⟨0, Nat.zero_le _, rfl, rfl⟩
  case round =>
    obtain ⟨k, hk, rfl, hall⟩ := hrel
    by_cases hlt : k < s.size
    · by_cases h1 : s[k].toNat < 32
      · have hr : Hid (Job.wrd s.data.toList = false) := Job.wrd_no (Job.all_not s k hlt (by simp [Job.okw]; omega))
        have hd : decide ((s[k].toNat : Int) < 32) = true := by simp; omega
        clear hall
        go_wp2
        go_ret
        exact ⟨ret_bool hr.out.symm, rfl⟩
      · have hd : decide ((s[k].toNat : Int) < 32) = false := by simp; omega
        by_cases h2 : 126 < s[k].toNat
        · have hr : Hid (Job.wrd s.data.toList = false) := Job.wrd_no (Job.all_not s k hlt (by simp [Job.okw]; omega))
          have hd2 : decide ((126 : Int) < (s[k].toNat : Int)) = true := by simp; omega
          clear hall
          go_wp2
          go_ret
          exact ⟨ret_bool hr.out.symm, rfl⟩
        · have hn : Hid ((s.data.toList.take (k + 1)).all Job.okw = true) := Job.all_take s k hlt hall.out (by simp [Job.okw]; omega)
          have hd2 : decide ((126 : Int) < (s[k].toNat : Int)) = false := by simp; omega
          clear hall
          go_wp2
          go_round
          case rel => exact ⟨k + 1, by omega, by go_num, hn⟩
          case measure => simp [intOf]; omega
    · obtain rfl : k = s.size := by omega
      have hr : Hid (Job.wrd s.data.toList = (!(s.data.toList.head? == some 32) && !(s.data.toList.getLast? == some 32) && !(s.toList == []) && decide ((s.size : Int) ≤ 60))) := by
        have := hall.out
        rw [Oct.take_all s s.size (Nat.le_refl _)] at this
        exact Job.wrd_at this
      clear hall
      generalize (s.data.toList.head? == some 32) = p at hr HP
      generalize (s.data.toList.getLast? == some 32) = q at hr HS
      cases p
      · cases q
        · cases h0 : (s.toList == [])
          · by_cases h1 : s.size ≤ 60
            · have d1 : decide ((s.size : Int) ≤ 60) = true := by simp; omega
              rw [h0, d1] at hr
              go_wp2_with (first | (go_at_call 46; refine (HP.out _).mono ?_; rintro e w' ⟨rfl, rfl⟩) | (go_at_call 49; refine (HS.out _).mono ?_; rintro e w' ⟨rfl, rfl⟩))
              go_ret
              exact ⟨ret_bool hr.out.symm, rfl⟩
            · have d1 : decide ((s.size : Int) ≤ 60) = false := by simp; omega
              rw [h0, d1] at hr
              go_wp2_with (first | (go_at_call 46; refine (HP.out _).mono ?_; rintro e w' ⟨rfl, rfl⟩) | (go_at_call 49; refine (HS.out _).mono ?_; rintro e w' ⟨rfl, rfl⟩))
              go_ret
              exact ⟨ret_bool hr.out.symm, rfl⟩
          · rw [h0] at hr
            go_wp2_with (first | (go_at_call 46; refine (HP.out _).mono ?_; rintro e w' ⟨rfl, rfl⟩) | (go_at_call 49; refine (HS.out _).mono ?_; rintro e w' ⟨rfl, rfl⟩))
            go_ret
            exact ⟨ret_bool hr.out.symm, rfl⟩
        · go_wp2_with (first | (go_at_call 46; refine (HP.out _).mono ?_; rintro e w' ⟨rfl, rfl⟩) | (go_at_call 49; refine (HS.out _).mono ?_; rintro e w' ⟨rfl, rfl⟩))
          go_ret
          exact ⟨ret_bool hr.out.symm, rfl⟩
      · go_wp2_with (first | (go_at_call 46; refine (HP.out _).mono ?_; rintro e w' ⟨rfl, rfl⟩) | (go_at_call 49; refine (HS.out _).mono ?_; rintro e w' ⟨rfl, rfl⟩))
        go_ret
        exact ⟨ret_bool hr.out.symm, rfl⟩

set_option maxHeartbeats 400000 in
theorem mayHave_any (k : Int) (s : ByteArray) (w : World) (hs : s.size ≤ maxLen) :
    Calls Tryd.prog 25 #[.int .i64 k, .string s] w fun e w' => e = .returned (.bool (Job.cmd k s.data.toList)) ∧ w' = w := by
  have HC : Hid (∀ w, Calls Tryd.prog 38 #[.string s] w fun e w' => e = .returned (.bool (Job.wrd s.data.toList)) ∧ w' = w) := fun w => isCommand_any s w hs
  have hr : Hid (Job.cmd k s.data.toList = if k = 2 then Job.wrd s.data.toList else (s.toList == [])) := by
    show _ = _
    unfold Job.cmd
    rw [tl_eq]
  go_enter Tryd.func25, Tryd.ntmps25
  by_cases h : k = 2
  · subst h
    rw [if_pos rfl] at hr
    go_wp2_with (go_at_call 38; refine (HC.out _).mono ?_; rintro e w' ⟨rfl, rfl⟩)
    go_ret
    exact ⟨ret_bool hr.out.symm, rfl⟩
  · have d1 : (k == 2) = false := by simp [h]
    have d2 : decide (k = 2) = false := by simp [h]
    have d3 : (k != 2) = true := by simp [h]
    rw [if_neg h] at hr
    cases h0 : (s.toList == [])
    all_goals
      rw [h0] at hr
      go_wp2
      go_ret
      exact ⟨ret_bool hr.out.symm, rfl⟩
end Go.Proofs.YtgcbaflaidehnaaDoor
