/-
  Walks of layer 5: the letter of a kind, the kind of a letter, users and commands; the document's user and word.
-/
import Derived.Test.YtgcbaflaidehnaaDoorRet
import Derived.Test.YtgcbaflaidehnaaDoorMathBun
import Derived.Test.YtgcbaflaidehnaaDoorShelf
import Derived.WalkMore
namespace Go.Proofs.YtgcbaflaidehnaaDoor
open Go.RowKit

theorem ret_ba {a b : List UInt8} (h : a = b) : Ending.returned (.string ⟨a.toArray⟩) = .returned (.string ⟨b.toArray⟩) := by rw [h]

set_option maxHeartbeats 400000 in
theorem letter_any (k : Int) (w : World) : Calls Tryd.prog 17 #[.int .i64 k] w fun e w' => e = .returned (.string ⟨(Job.ltr k).toArray⟩) ∧ w' = w := by
  have hr : Hid (Job.ltr k = if k = 1 then [83] else if k = 2 then [69] else if k = 3 then [82] else []) := rfl
  go_enter Tryd.func17, Tryd.ntmps17
  by_cases h1 : k = 1
  · subst h1
    go_wp2
    go_ret
    exact ⟨rfl, rfl⟩
  · have d1 : (k == 1) = false := by simp [h1]
    have d1' : decide (k = 1) = false := by simp [h1]
    by_cases h2 : k = 2
    · subst h2
      go_wp2
      go_ret
      exact ⟨rfl, rfl⟩
    · have d2 : (k == 2) = false := by simp [h2]
      have d2' : decide (k = 2) = false := by simp [h2]
      by_cases h3 : k = 3
      · subst h3
        go_wp2
        go_ret
        exact ⟨rfl, rfl⟩
      · have d3 : (k == 3) = false := by simp [h3]
        have d3' : decide (k = 3) = false := by simp [h3]
        go_wp2
        go_ret
        exact ⟨by rw [hr.out, if_neg h1, if_neg h2, if_neg h3]; rfl, rfl⟩

theorem kof_at {s : ByteArray} {l : List UInt8} : (s.toList == l) = true ↔ s.data.toList = l := by rw [tl_eq]; exact beq_iff_eq
theorem kof_not {s : ByteArray} {l : List UInt8} : (s.toList == l) = false ↔ s.data.toList ≠ l := by rw [tl_eq]; exact beq_eq_false_iff_ne

set_option maxHeartbeats 400000 in
theorem kindOf_any (s : ByteArray) (w : World) : Calls Tryd.prog 32 #[.string s] w fun e w' => e = .returned (.int .i64 (Job.kof s.data.toList)) ∧ w' = w := by
  have hr : Hid (Job.kof s.data.toList = if (s.toList == [83]) = true then 1 else if (s.toList == [69]) = true then 2 else if (s.toList == [82]) = true then 3 else 0) := by
    show _ = _
    unfold Job.kof
    rw [tl_eq]
    simp only [beq_iff_eq]
  go_enter Tryd.func32, Tryd.ntmps32
  cases h1 : (s.toList == [83])
  · cases h2 : (s.toList == [69])
    · cases h3 : (s.toList == [82])
      all_goals
        rw [h1, h2, h3] at hr
        go_wp2
        go_ret
        exact ⟨ret_int hr.out.symm, rfl⟩
    · rw [h1, h2] at hr
      go_wp2
      go_ret
      exact ⟨ret_int hr.out.symm, rfl⟩
  · rw [h1] at hr
    go_wp2
    go_ret
    exact ⟨ret_int hr.out.symm, rfl⟩

namespace Job
theorem all_take {f : UInt8 → Bool} (s : ByteArray) (k : Nat) (h : k < s.size) (hk : (s.data.toList.take k).all f = true) (hc : f s[k] = true) : (s.data.toList.take (k + 1)).all f = true := by
  rw [Oct.take_snoc s k h, List.all_append, hk]; simp [hc]
theorem all_not {f : UInt8 → Bool} (s : ByteArray) (k : Nat) (h : k < s.size) (hc : f s[k] = false) : s.data.toList.all f = false := by
  rw [List.all_eq_false]; exact ⟨s[k], Oct.mem_at s k h, by simp [hc]⟩
theorem usr_no {l : Bs} (h : l.all Nam.okc = false) : usr l = false := by unfold usr; rw [h]; rfl
theorem usr_yes {l : Bs} (h : l.all Nam.okc = true) : usr l = (decide (1 ≤ l.length) && decide (l.length ≤ 8)) := by unfold usr; rw [h]; rfl
theorem wrd_no {l : Bs} (h : l.all okw = false) : wrd l = false := by unfold wrd; rw [h]; rfl
theorem okc_iff (c : UInt8) : Nam.okc c = (decide (48 ≤ c.toNat ∧ c.toNat ≤ 57) || decide (97 ≤ c.toNat ∧ c.toNat ≤ 122)) := by
  unfold Nam.okc Nam.dg Nam.sm
  have e (a b : Nat) : decide ((a : Int) ≤ (b : Int)) = decide (a ≤ b) := by simp
  rw [show (48 : Int) = ((48 : Nat) : Int) from rfl, show (57 : Int) = ((57 : Nat) : Int) from rfl, show (97 : Int) = ((97 : Nat) : Int) from rfl, show (122 : Int) = ((122 : Nat) : Int) from rfl, e, e, e, e]
  simp
end Job

set_option maxHeartbeats 1000000 in
theorem isUser_any (s : ByteArray) (w : World) (hs : s.size ≤ maxLen) :
    Calls Tryd.prog 23 #[.string s] w fun e w' => e = .returned (.bool (Job.usr s.data.toList)) ∧ w' = w := by
  unfold maxLen at hs
  go_enter Tryd.func23, Tryd.ntmps23
  go_wp2
  go_loop [7] (fun i => ∃ k : Nat, k ≤ s.size ∧ i = .int .i64 k ∧ Hid ((s.data.toList.take k).all Nam.okc = true)) (fun i => s.size - (intOf i).toNat)
  case atStart => exact ⟨0, Nat.zero_le _, rfl, rfl⟩
  case round =>
    obtain ⟨k, hk, rfl, hall⟩ := hrel
    by_cases hlt : k < s.size
    · cases ho : Nam.okc s[k]
      · have hr : Hid (Job.usr s.data.toList = false) := Job.usr_no (Job.all_not s k hlt ho)
        rw [Job.okc_iff] at ho
        simp only [Bool.or_eq_false_iff, decide_eq_false_iff_not] at ho
        obtain ⟨o1, o2⟩ := ho
        clear hall
        by_cases h1 : s[k].toNat < 97
        · have d1 : decide ((s[k].toNat : Int) < 97) = true := by simp; omega
          by_cases h2 : s[k].toNat < 48
          · have d2 : decide ((s[k].toNat : Int) < 48) = true := by simp; omega
            clear o1 o2
            go_wp2
            go_ret
            exact ⟨ret_bool hr.out.symm, rfl⟩
          · have d2 : decide ((s[k].toNat : Int) < 48) = false := by simp; omega
            have d3 : decide ((57 : Int) < (s[k].toNat : Int)) = true := by simp; omega
            clear o1 o2
            go_wp2
            go_ret
            exact ⟨ret_bool hr.out.symm, rfl⟩
        · have d1 : decide ((s[k].toNat : Int) < 97) = false := by simp; omega
          have d4 : decide ((122 : Int) < (s[k].toNat : Int)) = true := by simp; omega
          have d2 : decide ((s[k].toNat : Int) < 48) = false := by simp; omega
          have d3 : decide ((57 : Int) < (s[k].toNat : Int)) = true := by simp; omega
          clear o1 o2
          go_wp2
          go_ret
          exact ⟨ret_bool hr.out.symm, rfl⟩
      · have hn : Hid ((s.data.toList.take (k + 1)).all Nam.okc = true) := Job.all_take s k hlt hall.out ho
        rw [Job.okc_iff] at ho
        simp only [Bool.or_eq_true, decide_eq_true_eq] at ho
        clear hall
        by_cases h1 : s[k].toNat < 97
        · have d1 : decide ((s[k].toNat : Int) < 97) = true := by simp; omega
          have d2 : decide ((s[k].toNat : Int) < 48) = false := by simp; omega
          have d3 : decide ((57 : Int) < (s[k].toNat : Int)) = false := by simp; omega
          clear ho
          go_wp2
          go_round
          case rel => exact ⟨k + 1, by omega, by go_num, hn⟩
          case measure => simp [intOf]; omega
        · have d1 : decide ((s[k].toNat : Int) < 97) = false := by simp; omega
          have d4 : decide ((122 : Int) < (s[k].toNat : Int)) = false := by simp; omega
          clear ho
          go_wp2
          go_round
          case rel => exact ⟨k + 1, by omega, by go_num, hn⟩
          case measure => simp [intOf]; omega
    · obtain rfl : k = s.size := by omega
      have hr : Hid (Job.usr s.data.toList = (!(s.toList == []) && decide ((s.size : Int) ≤ 8))) := by
        show _ = _
        have := hall.out
        rw [Oct.take_all s s.size (Nat.le_refl _)] at this
        rw [tl_eq, Job.usr_yes this, Oct.len_eq]
        congr 1
        · rw [← Oct.len_eq]; cases s.data.toList <;> simp
        · simp
          omega
      clear hall
      cases h0 : (s.toList == [])
      · by_cases h1 : s.size ≤ 8
        · have d1 : decide ((s.size : Int) ≤ 8) = true := by simp; omega
          rw [h0, d1] at hr
          go_wp2
          go_ret
          exact ⟨ret_bool hr.out.symm, rfl⟩
        · have d1 : decide ((s.size : Int) ≤ 8) = false := by simp; omega
          rw [h0, d1] at hr
          go_wp2
          go_ret
          exact ⟨ret_bool hr.out.symm, rfl⟩
      · rw [h0] at hr
        go_wp2
        go_ret
        exact ⟨ret_bool hr.out.symm, rfl⟩
end Go.Proofs.YtgcbaflaidehnaaDoor
