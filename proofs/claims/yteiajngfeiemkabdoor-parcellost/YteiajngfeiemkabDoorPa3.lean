/-
  Walks of layer 13: readTag, readSize.
-/
import Derived.Test.YteiajngfeiemkabDoorPa1
import Derived.Test.YteiajngfeiemkabDoorPaU
import Derived.Test.YteiajngfeiemkabDoorNum
namespace Go.Proofs.YteiajngfeiemkabDoor
open Go.RowKit
namespace Pa
/-- The digits said, or 0. -/
def szN : Except Nat (Nat × List UInt8) → Nat
  | .ok x => x.1
  | .error _ => 0
def szE : Except Nat (Nat × List UInt8) → Nat
  | .ok _ => 0
  | .error e => e
theorem drop_at (s : ByteArray) (k : Nat) (h : k < s.size) : s.data.toList.drop k = s[k] :: s.data.toList.drop (k + 1) := by
  rw [List.drop_eq_getElem_cons (by rw [If.len_eq]; exact h)]
  rfl
theorem drop_end (s : ByteArray) (k : Nat) (h : s.size ≤ k) : s.data.toList.drop k = [] := List.drop_eq_nil_of_le (by rw [If.len_eq]; exact h)
theorem sz_end {k m : Nat} (h : 0 < k) : sz k m [] = .error 2 := by
  match k, h with
  | k + 1, _ => rfl
theorem sz_form {k m : Nat} (h : 0 < k) {c : UInt8} {r : List UInt8} (hc : dig c = false) : sz k m (c :: r) = .error 3 := by
  match k, h with
  | k + 1, _ => unfold sz; rw [if_neg (by rw [hc]; simp)]
theorem sz_step {k m : Nat} (h : 0 < k) {c : UInt8} {r : List UInt8} (hc : dig c = true) : sz k m (c :: r) = sz (k - 1) (m * 10 + (c.toNat - 48)) r := by
  match k, h with
  | k + 1, _ => rw [sz, if_pos hc]; rfl
theorem sz_zero (m : Nat) (r : List UInt8) : sz 0 m r = if 4096 < m then .error 3 else .ok (m, r) := by rw [sz]
theorem dig_low {c : UInt8} (h : c.toNat < 48) : dig c = false := by unfold dig; rw [decide_eq_false (by omega)]; rfl
theorem dig_high {c : UInt8} (h : 57 < c.toNat) : dig c = false := by unfold dig; rw [Bool.and_eq_false_iff]; right; exact decide_eq_false (by omega)
theorem dig_yes {c : UInt8} (h : 48 ≤ c.toNat) (h' : c.toNat ≤ 57) : dig c = true := by unfold dig; rw [decide_eq_true h, decide_eq_true h']; rfl
theorem grow {k m d : Nat} (hm : m < 10 ^ k) (hd : d ≤ 9) : m * 10 + d < 10 ^ (k + 1) := by rw [Nat.pow_succ]; omega
theorem small {k m : Nat} (hk : k ≤ 4) (hm : m < 10 ^ k) : m < 10000 := Nat.lt_of_lt_of_le hm (Nat.pow_le_pow_right (by omega) hk)
end Pa
set_option maxHeartbeats 1000000 in
theorem readTag_none (w : World) :
    Calls Tryd.prog 18 #[.string ⟨#[]⟩] w fun e w' => e = .returned (.tuple #[.int .i64 0, .int .i64 2]) ∧ w' = w := by
  go_enter Tryd.func18, Tryd.ntmps18
  go_wp2
  go_ret2
  exact ⟨rfl, rfl⟩
set_option maxHeartbeats 1000000 in
theorem readTag_no (s : ByteArray) (hs : s.size ≤ maxLen) (h0 : 0 < s.size) (h : Pa.tag s[0].toNat = false) (w : World) :
    Calls Tryd.prog 18 #[.string s] w fun e w' => e = .returned (.tuple #[.int .i64 0, .int .i64 3]) ∧ w' = w := by
  have hml : s.size ≤ 9223372036854775807 := hs
  have e0 := If.ne_nil h0
  have HK := isTag_any (s[0].toNat : Int) w
  rw [h] at HK
  have hb := UInt8.toNat_lt s[0]
  clear hs h
  go_enter Tryd.func18, Tryd.ntmps18
  go_wp2_with (go_at_call 16; refine HK.mono ?_; rintro e w2 ⟨rfl, rfl⟩)
  go_ret2
  exact ⟨rfl, rfl⟩
set_option maxHeartbeats 1000000 in
theorem readTag_yes (s : ByteArray) (hs : s.size ≤ maxLen) (h0 : 0 < s.size) (h : Pa.tag s[0].toNat = true) (w : World) :
    Calls Tryd.prog 18 #[.string s] w fun e w' => e = .returned (.tuple #[.int .i64 (s[0].toNat : Int), .int .i64 0]) ∧ w' = w := by
  have hml : s.size ≤ 9223372036854775807 := hs
  have e0 := If.ne_nil h0
  have HK := isTag_any (s[0].toNat : Int) w
  rw [h] at HK
  have hb := UInt8.toNat_lt s[0]
  clear hs h
  go_enter Tryd.func18, Tryd.ntmps18
  go_wp2_with (go_at_call 16; refine HK.mono ?_; rintro e w2 ⟨rfl, rfl⟩)
  go_ret2
  exact ⟨rfl, rfl⟩
set_option maxHeartbeats 1000000 in
theorem readSize_any (s : ByteArray) (hs : s.size ≤ maxLen) (w : World) :
    Calls Tryd.prog 19 #[.string s] w fun e w' => e = .returned (.tuple #[.int .i64 (Pa.szN (Pa.sz 4 0 s.data.toList) : Nat), .int .i64 (Pa.szE (Pa.sz 4 0 s.data.toList) : Nat)]) ∧ w' = w := by
  have hml : s.size ≤ 9223372036854775807 := hs
  clear hs
  generalize hR : Pa.sz 4 0 s.data.toList = R
  replace hR := Rg.hid hR
  go_enter Tryd.func19, Tryd.ntmps19
  go_wp2
  go_loop [4, 6] (fun n i => ∃ k m : Nat, k ≤ 4 ∧ k ≤ s.size ∧ i = .int .i64 k ∧ n = .int .i64 m ∧ Hid (m < 10 ^ k) ∧ Hid (Pa.sz (4 - k) m (s.data.toList.drop k) = R)) (fun _ i => 4 - (intOf i).toNat)
  case atStart => exact ⟨0, 0, by omega, by omega, rfl, rfl, Nat.one_pos, hR⟩
  case round =>
    obtain ⟨k, m, hk, hks, rfl, rfl, hm, hz⟩ := hrel
    have hm4 := Pa.small hk hm.out
    by_cases h4 : k = 4
    · subst h4
      have hz2 := Pa.sz_zero m (s.data.toList.drop 4)
      by_cases hb : 4096 < m
      · have hr : Hid (R = .error 3) := by have := hz.out; rw [← this]; exact hz2.trans (if_pos hb)
        have d1 : decide ((4096 : Int) < (m : Int)) = true := by simp; omega
        clear hz hm hz2
        go_wp2
        go_ret2
        exact ⟨ret_two (by rw [hr.out]; rfl) (by rw [hr.out]; rfl), rfl⟩
      · have hr : Hid (R = .ok (m, s.data.toList.drop 4)) := by have := hz.out; rw [← this]; exact hz2.trans (if_neg hb)
        have d1 : decide ((4096 : Int) < (m : Int)) = false := by simp; omega
        clear hz hm hz2
        go_wp2
        go_ret2
        exact ⟨ret_two (by rw [hr.out]; rfl) (by rw [hr.out]; rfl), rfl⟩
    · have hk4 : k < 4 := by omega
      have d4 : decide ((k : Int) < 4) = true := by simp; omega
      by_cases he : k = s.size
      · have hr : Hid (R = .error 2) := by have := hz.out; rw [← this, Pa.drop_end s k (by omega)]; exact Pa.sz_end (by omega)
        have d1 : ((k : Int) == (s.size : Int)) = true := by rw [beq_iff_eq]; omega
        have d2 : (k == s.size) = true := by rw [beq_iff_eq]; exact he
        clear hz hm
        go_wp2
        go_ret2
        exact ⟨ret_two (by rw [hr.out]; rfl) (by rw [hr.out]; rfl), rfl⟩
      · have hlt : k < s.size := by omega
        have d1 : ((k : Int) == (s.size : Int)) = false := by rw [beq_eq_false_iff_ne]; omega
        have d2 : (k == s.size) = false := by rw [beq_eq_false_iff_ne]; exact he
        have hz' : Hid (Pa.sz (4 - k) m (s[k] :: s.data.toList.drop (k + 1)) = R) := by have := hz.out; rwa [Pa.drop_at s k hlt] at this
        clear hz
        by_cases h0 : 48 ≤ (s[k].toNat : Int)
        · by_cases h1 : (s[k].toNat : Int) ≤ 57
          · have hn : Hid (Pa.sz (4 - (k + 1)) (m * 10 + (s[k].toNat - 48)) (s.data.toList.drop (k + 1)) = R) := by
              have := hz'.out; rwa [Pa.sz_step (by omega) (Pa.dig_yes (by omega) (by omega)), show 4 - k - 1 = 4 - (k + 1) by omega] at this
            have hg : Hid (m * 10 + (s[k].toNat - 48) < 10 ^ (k + 1)) := Pa.grow hm.out (by omega)
            clear hz' hm
            go_wp2
            go_round
            case rel => exact ⟨k + 1, m * 10 + (s[k].toNat - 48), by omega, by omega, by go_num, congrArg (Value.int .i64) (by omega), hg, hn⟩
            case measure => simp [intOf]; omega
          · have hr : Hid (R = .error 3) := by have := hz'.out; rw [← this]; exact Pa.sz_form (by omega) (Pa.dig_high (by omega))
            clear hz' hm
            go_wp2
            go_ret2
            exact ⟨ret_two (by rw [hr.out]; rfl) (by rw [hr.out]; rfl), rfl⟩
        · have hr : Hid (R = .error 3) := by have := hz'.out; rw [← this]; exact Pa.sz_form (by omega) (Pa.dig_low (by omega))
          clear hz' hm
          go_wp2
          go_ret2
          exact ⟨ret_two (by rw [hr.out]; rfl) (by rw [hr.out]; rfl), rfl⟩
end Go.Proofs.YteiajngfeiemkabDoor
