/-
  Walks of layer 5: the document's user and word.
-/
import Derived.Test.YthjlhbbhdliffaaDoorJb2
namespace Go.Proofs.YthjlhbbhdliffaaDoor
open Go.RowKit

set_option maxHeartbeats 1000000 in
theorem ruser_any (s : ByteArray) (w : World) (hs : s.size ≤ maxLen) :
    Calls Tryd.prog 27 #[.string s] w fun e w' => e = .returned (.bool (Job.usr s.data.toList)) ∧ w' = w := by
  unfold maxLen at hs
  go_enter Tryd.func27, Tryd.ntmps27
  go_wp2
  go_loop [6] (fun i => ∃ k : Nat, k ≤ s.size ∧ i = .int .i64 k ∧ Hid ((s.data.toList.take k).all Nam.okc = true)) (fun i => s.size - (intOf i).toNat)
  case atStart => exact ⟨0, Nat.zero_le _, rfl, rfl⟩
  case round =>
    obtain ⟨k, hk, rfl, hall⟩ := hrel
    by_cases hlt : k < s.size
    · cases ho : Nam.okc s[k]
      · have hr : Hid (Job.usr s.data.toList = false) := Job.usr_no (Job.all_not s k hlt ho)
        rw [Job.okc_iff] at ho
        simp only [Bool.or_eq_false_iff, decide_eq_false_iff_not] at ho
        obtain ⟨o1, o2⟩ := ho
        clear hall
        by_cases h1 : s[k].toNat < 97
        · have d1 : decide ((s[k].toNat : Int) < 97) = true := by simp; omega
          by_cases h2 : s[k].toNat < 48
          · have d2 : decide ((s[k].toNat : Int) < 48) = true := by simp; omega
            clear o1 o2
            go_wp2
            go_ret
            exact ⟨ret_bool hr.out.symm, rfl⟩
          · have d2 : decide ((s[k].toNat : Int) < 48) = false := by simp; omega
            have d3 : decide ((57 : Int) < (s[k].toNat : Int)) = true := by simp; omega
            clear o1 o2
            go_wp2
            go_ret
            exact ⟨ret_bool hr.out.symm, rfl⟩
        · have d1 : decide ((s[k].toNat : Int) < 97) = false := by simp; omega
          have d4 : decide ((122 : Int) < (s[k].toNat : Int)) = true := by simp; omega
          have d2 : decide ((s[k].toNat : Int) < 48) = false := by simp; omega
          have d3 : decide ((57 : Int) < (s[k].toNat : Int)) = true := by simp; omega
          clear o1 o2
          go_wp2
          go_ret
          exact ⟨ret_bool hr.out.symm, rfl⟩
      · have hn : Hid ((s.data.toList.take (k + 1)).all Nam.okc = true) := Job.all_take s k hlt hall.out ho
        rw [Job.okc_iff] at ho
        simp only [Bool.or_eq_true, decide_eq_true_eq] at ho
        clear hall
        by_cases h1 : s[k].toNat < 97
        · have d1 : decide ((s[k].toNat : Int) < 97) = true := by simp; omega
          have d2 : decide ((s[k].toNat : Int) < 48) = false := by simp; omega
          have d3 : decide ((57 : Int) < (s[k].toNat : Int)) = false := by simp; omega
          clear ho
          go_wp2
          go_round
          case rel => exact ⟨k + 1, by omega, by go_num, hn⟩
          case measure => simp [intOf]; omega
        · have d1 : decide ((s[k].toNat : Int) < 97) = false := by simp; omega
          have d4 : decide ((122 : Int) < (s[k].toNat : Int)) = false := by simp; omega
          clear ho
          go_wp2
          go_round
          case rel => exact ⟨k + 1, by omega, by go_num, hn⟩
          case measure => simp [intOf]; omega
    · obtain rfl : k = s.size := by omega
      have hr : Hid (Job.usr s.data.toList = (decide ((1 : Int) ≤ (s.size : Int)) && decide ((s.size : Int) ≤ 8))) := by
        show _ = _
        have := hall.out
        rw [Oct.take_all s s.size (Nat.le_refl _)] at this
        rw [Job.usr_yes this, Oct.len_eq]
        congr 1
        · simp
          omega
        · simp
          omega
      clear hall
      by_cases h0 : 1 ≤ s.size
      · have d0 : decide ((1 : Int) ≤ (s.size : Int)) = true := by simp; omega
        by_cases h1 : s.size ≤ 8
        · have d1 : decide ((s.size : Int) ≤ 8) = true := by simp; omega
          rw [d0, d1] at hr
          go_wp2
          go_ret
          exact ⟨ret_bool hr.out.symm, rfl⟩
        · have d1 : decide ((s.size : Int) ≤ 8) = false := by simp; omega
          rw [d0, d1] at hr
          go_wp2
          go_ret
          exact ⟨ret_bool hr.out.symm, rfl⟩
      · have d0 : decide ((1 : Int) ≤ (s.size : Int)) = false := by simp; omega
        rw [d0] at hr
        go_wp2
        go_ret
        exact ⟨ret_bool hr.out.symm, rfl⟩

namespace Job
theorem head_at {p : ByteArray} (h : 0 < p.size) : p.data.toList.head? = some p[0] := by
  have e := Oct.headD_at p h
  have hl := Oct.len_eq p
  cases hp : p.data.toList with
  | nil => rw [hp] at hl; simp at hl; omega
  | cons a r => rw [hp] at e; simp only [List.headD_cons] at e; rw [List.head?_cons, e]
theorem last_at {p : ByteArray} (h : 0 < p.size) : p.data.toList.getLast? = some (p[p.size - 1]'(by omega)) := by
  rw [List.getLast?_eq_getElem?, Oct.len_eq, Array.getElem?_toList, Array.getElem?_eq_getElem (by show p.size - 1 < p.size; omega)]
  rfl
theorem some_eq (c : UInt8) : ((some c : Option UInt8) == some 32) = ((c.toNat : Int) == 32) := by
  by_cases h : c = 32
  · subst h; rfl
  · have h1 : ¬ ((c.toNat : Int) = 32) := fun q => h (UInt8.toNat_inj.1 (by have : (32 : UInt8).toNat = 32 := rfl; omega))
    have a : ((some c : Option UInt8) == some 32) = false := by simpa using h
    have b : ((c.toNat : Int) == 32) = false := by simpa using h1
    rw [a, b]
theorem wrd_long {s : ByteArray} (h : 60 < s.size) : wrd s.data.toList = false := by
  unfold wrd
  rw [Oct.len_eq]
  have : decide (s.size ≤ 60) = false := by simp; omega
  rw [this, Bool.and_false]
theorem wrd_empty {s : ByteArray} (h : (s.toList == []) = true) : wrd s.data.toList = false := by
  rw [tl_eq] at h
  rw [eq_of_beq h]; rfl
theorem wrd_first {s : ByteArray} (h : (s.data.toList.head? == some 32) = true) : wrd s.data.toList = false := by
  unfold wrd; rw [h]; simp
theorem wrd_last {s : ByteArray} (h : (s.data.toList.getLast? == some 32) = true) : wrd s.data.toList = false := by
  unfold wrd; rw [h]; simp
end Job

set_option maxHeartbeats 1000000 in
theorem rword_any (s : ByteArray) (w : World) (hs : s.size ≤ maxLen) :
    Calls Tryd.prog 29 #[.string s, .int .i64 60] w fun e w' => e = .returned (.bool (Job.wrd s.data.toList)) ∧ w' = w := by
  unfold maxLen at hs
  have h63 : (s.size : Int) ≤ 9223372036854775807 := by omega
  cases h0 : (s.toList == [])
  · have hp : 0 < s.size := by
      rcases Nat.eq_zero_or_pos s.size with h | h
      · rw [tl_eq] at h0
        have : s.data.toList = [] := by rw [← List.length_eq_zero_iff, Oct.len_eq, h]
        rw [this] at h0; cases h0
      · exact h
    by_cases h1 : 60 < s.size
    · have hr : Hid (Job.wrd s.data.toList = false) := Job.wrd_long h1
      have d1 : decide ((60 : Int) < (s.size : Int)) = true := by simp; omega
      go_enter Tryd.func29, Tryd.ntmps29
      go_wp2
      go_ret
      exact ⟨ret_bool hr.out.symm, rfl⟩
    · have d1 : decide ((60 : Int) < (s.size : Int)) = false := by simp; omega
      cases h2 : ((s[0].toNat : Int) == 32)
      · have hl : s.size - 1 < s.size := by omega
        have hc : ((s.size : Int) - 1) = ((s.size - 1 : Nat) : Int) := by omega
        cases h3 : ((s[s.size - 1].toNat : Int) == 32)
        · have hr : Hid (s.data.toList.all Job.okw = true → Job.wrd s.data.toList = true) := fun h => by
            have e := Job.wrd_at h
            rw [Job.head_at hp, Job.last_at hp, Job.some_eq, Job.some_eq, h0, h2, h3] at e
            rw [e]
            simp; omega
          go_enter Tryd.func29, Tryd.ntmps29
          go_wp2
          go_loop [29] (fun i => ∃ k : Nat, k ≤ s.size ∧ i = .int .i64 k ∧ Hid ((s.data.toList.take k).all Job.okw = true)) (fun i => s.size - (intOf i).toNat)
          case atStart => exact ⟨0, Nat.zero_le _, rfl, rfl⟩
          case round =>
            obtain ⟨k, hk, rfl, hall⟩ := hrel
            by_cases hlt : k < s.size
            · by_cases h1 : s[k].toNat < 32
              · have hr : Hid (Job.wrd s.data.toList = false) := Job.wrd_no (Job.all_not s k hlt (by simp [Job.okw]; omega))
                have hd : decide ((s[k].toNat : Int) < 32) = true := by simp; omega
                clear hall
                go_wp2
                go_ret
                exact ⟨ret_bool hr.out.symm, rfl⟩
              · have hd : decide ((s[k].toNat : Int) < 32) = false := by simp; omega
                by_cases h2 : 126 < s[k].toNat
                · have hr : Hid (Job.wrd s.data.toList = false) := Job.wrd_no (Job.all_not s k hlt (by simp [Job.okw]; omega))
                  have hd2 : decide ((126 : Int) < (s[k].toNat : Int)) = true := by simp; omega
                  clear hall
                  go_wp2
                  go_ret
                  exact ⟨ret_bool hr.out.symm, rfl⟩
                · have hn : Hid ((s.data.toList.take (k + 1)).all Job.okw = true) := Job.all_take s k hlt hall.out (by simp [Job.okw]; omega)
                  have hd2 : decide ((126 : Int) < (s[k].toNat : Int)) = false := by simp; omega
                  clear hall
                  go_wp2
                  go_round
                  case rel => exact ⟨k + 1, by omega, by go_num, hn⟩
                  case measure => simp [intOf]; omega
            · obtain rfl : k = s.size := by omega
              have hr2 : Hid (Job.wrd s.data.toList = true) := by
                have := hall.out
                rw [Oct.take_all s s.size (Nat.le_refl _)] at this
                exact hr.out this
              clear hall
              go_wp2
              go_ret
              exact ⟨ret_bool hr2.out.symm, rfl⟩
        · have hr : Hid (Job.wrd s.data.toList = false) := Job.wrd_last (by rw [Job.last_at hp, Job.some_eq, h3])
          go_enter Tryd.func29, Tryd.ntmps29
          go_wp2
          go_ret
          exact ⟨ret_bool hr.out.symm, rfl⟩
      · have hr : Hid (Job.wrd s.data.toList = false) := Job.wrd_first (by rw [Job.head_at hp, Job.some_eq, h2])
        go_enter Tryd.func29, Tryd.ntmps29
        go_wp2
        go_ret
        exact ⟨ret_bool hr.out.symm, rfl⟩
  · have hr : Hid (Job.wrd s.data.toList = false) := Job.wrd_empty h0
    go_enter Tryd.func29, Tryd.ntmps29
    go_wp2
    go_ret
    exact ⟨ret_bool hr.out.symm, rfl⟩
end Go.Proofs.YthjlhbbhdliffaaDoor
