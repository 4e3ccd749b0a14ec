/-
  Walks of layer 1: octet.isSize, octet.Get, the document's Get.
-/
import Derived.Test.YtakgmpebgaiinaaDoorNum
import Derived.Test.YtakgmpebgaiinaaDoorMathB
import Derived.Test.YtakgmpebgaiinaaDoorBits
namespace Go.Proofs.YtakgmpebgaiinaaDoor
open Go.RowKit

theorem isSize_yes (n : Int) (w : World) (h1 : 1 ≤ n) (h4 : n ≤ 4) : Calls Tryd.prog 27 #[.int .i64 n] w fun e w' => e = .returned (.bool true) ∧ w' = w := by
  go_enter Tryd.func27, Tryd.ntmps27
  go_wp2
  go_ret
  exact ⟨ret_bool (by simp), rfl⟩
theorem isSize_no (n : Int) (w : World) (h : n < 1 ∨ 4 < n) : Calls Tryd.prog 27 #[.int .i64 n] w fun e w' => e = .returned (.bool false) ∧ w' = w := by
  by_cases h1 : 1 ≤ n
  · have h4 : 4 < n := by omega
    clear h
    go_enter Tryd.func27, Tryd.ntmps27
    go_wp2
    go_ret
    exact ⟨ret_bool (by simp; omega), rfl⟩
  · have h4 : n < 1 := by omega
    have hd : decide (1 ≤ n) = false := by simp; omega
    clear h h1
    go_enter Tryd.func27, Tryd.ntmps27
    go_wp2
    go_ret
    exact ⟨rfl, rfl⟩

set_option maxHeartbeats 400000 in
theorem get_any (s : ByteArray) (a size : Int) (w : World) (hs : s.size ≤ maxLen) (ha : a ≤ 9223372036854775807) :
    Calls Tryd.prog 19 #[.string s, .int .i64 a, .int .i64 size] w fun e w' => e = .returned (.tuple #[.int .i64 (Oct.get s.data.toList a size).1, .int .i64 (Oct.get s.data.toList a size).2]) ∧ w' = w := by
  unfold maxLen at hs
  have hL : Hid (s.data.toList.length = s.size) := Oct.len_eq s
  by_cases hsz : size < 1 ∨ 4 < size
  · have HA := isSize_no size w hsz
    have hr : Hid (Oct.get s.data.toList a size = (0, 1)) := Oct.get_arg (by omega)
    clear hsz
    go_enter Tryd.func19, Tryd.ntmps19
    go_wp2_with (go_at_call 27; refine HA.mono ?_; rintro e w' ⟨rfl, rfl⟩)
    go_ret2
    exact ⟨ret_two (by rw [hr.out]; rfl) (by rw [hr.out]; rfl), rfl⟩
  · have h1 : 1 ≤ size := by omega
    have h4 : size ≤ 4 := by omega
    have HA := isSize_yes size w h1 h4
    clear hsz
    by_cases h0 : a < 0
    · have hr : Hid (Oct.get s.data.toList a size = (0, 1)) := Oct.get_arg (by omega)
      go_enter Tryd.func19, Tryd.ntmps19
      go_wp2_with (go_at_call 27; refine HA.mono ?_; rintro e w' ⟨rfl, rfl⟩)
      go_ret2
      exact ⟨ret_two (by rw [hr.out]; rfl) (by rw [hr.out]; rfl), rfl⟩
    · have h0' : 0 ≤ a := by omega
      clear h0
      by_cases hsh : (s.size : Int) - size < a
      · have hr : Hid (Oct.get s.data.toList a size = (0, 2)) := Oct.get_short h1 h4 h0' (by rw [hL.out]; exact hsh)
        go_enter Tryd.func19, Tryd.ntmps19
        go_wp2_with (go_at_call 27; refine HA.mono ?_; rintro e w' ⟨rfl, rfl⟩)
        go_ret2
        exact ⟨ret_two (by rw [hr.out]; rfl) (by rw [hr.out]; rfl), rfl⟩
      · have hr : Hid (Oct.get s.data.toList a size = (Oct.be ((s.data.toList.drop a.toNat).take size.toNat), 0)) := Oct.get_ok h1 h4 h0' (by rw [hL.out]; omega)
        obtain ⟨p, rfl⟩ := Int.eq_ofNat_of_zero_le h0'
        obtain ⟨m, rfl⟩ := Int.eq_ofNat_of_zero_le (show 0 ≤ size by omega)
        have hpm : p + m ≤ s.size := by omega
        have hm4 : m ≤ 4 := by omega
        have hr' : Hid (Oct.get s.data.toList p m = (Oct.be ((s.data.toList.drop p).take m), 0)) := by have := hr.out; rw [Int.toNat_natCast, Int.toNat_natCast] at this; exact this
        clear hr h0' hsh
        go_enter Tryd.func19, Tryd.ntmps19
        go_wp2_with (go_at_call 27; refine HA.mono ?_; rintro e w' ⟨rfl, rfl⟩)
        go_loop [8, 24] (fun n i => ∃ k : Nat, k ≤ m ∧ i = .int .i64 k ∧ n = .int .i64 (Oct.be ((s.data.toList.drop p).take k))) (fun _ i => m - (intOf i).toNat)
        case atStart => exact ⟨0, Nat.zero_le _, rfl, rfl⟩
        case round =>
          obtain ⟨k, hk, rfl, rfl⟩ := hrel
          by_cases hlt : k < m
          · have hbd := Oct.be_take_lt s p k (by omega)
            have HS : Hid (Oct.be ((s.data.toList.drop p).take (k + 1)) = Oct.be ((s.data.toList.drop p).take k) * 256 + s[p + k].toNat) := Oct.be_step s p k (by omega)
            go_wp2
            go_round
            case rel => exact ⟨k + 1, by omega, by go_num, by rw [HS.out, Oct.or_byte _ _ hbd (UInt8.toNat_lt _)]⟩
            case measure => simp [intOf]; omega
          · go_wp2
            go_ret2
            have hkm : k = m := by omega
            subst hkm
            exact ⟨ret_two (by rw [hr'.out]) (by rw [hr'.out]; rfl), rfl⟩

set_option maxHeartbeats 400000 in
theorem refGet_any (s : ByteArray) (a size : Int) (w : World) (hs : s.size ≤ maxLen) (ha : a ≤ 9223372036854775807) :
    Calls Tryd.prog 20 #[.string s, .int .i64 a, .int .i64 size] w fun e w' => e = .returned (.tuple #[.int .i64 (Oct.get s.data.toList a size).1, .int .i64 (Oct.get s.data.toList a size).2]) ∧ w' = w := by
  unfold maxLen at hs
  have hL : Hid (s.data.toList.length = s.size) := Oct.len_eq s
  by_cases h1 : 1 ≤ size
  rotate_left
  · have hr : Hid (Oct.get s.data.toList a size = (0, 1)) := Oct.get_arg (by omega)
    have h1' : size < 1 := by omega
    clear h1
    go_enter Tryd.func20, Tryd.ntmps20
    go_wp2
    go_ret2
    exact ⟨ret_two (by rw [hr.out]; rfl) (by rw [hr.out]; rfl), rfl⟩
  by_cases h4 : size ≤ 4
  rotate_left
  · have hr : Hid (Oct.get s.data.toList a size = (0, 1)) := Oct.get_arg (by omega)
    have h4' : 4 < size := by omega
    clear h4
    go_enter Tryd.func20, Tryd.ntmps20
    go_wp2
    go_ret2
    exact ⟨ret_two (by rw [hr.out]; rfl) (by rw [hr.out]; rfl), rfl⟩
  by_cases h0 : 0 ≤ a
  rotate_left
  · have hr : Hid (Oct.get s.data.toList a size = (0, 1)) := Oct.get_arg (by omega)
    have h0' : a < 0 := by omega
    clear h0
    go_enter Tryd.func20, Tryd.ntmps20
    go_wp2
    go_ret2
    exact ⟨ret_two (by rw [hr.out]; rfl) (by rw [hr.out]; rfl), rfl⟩
  by_cases hsh : (s.size : Int) - size < a
  · have hr : Hid (Oct.get s.data.toList a size = (0, 2)) := Oct.get_short h1 h4 h0 (by rw [hL.out]; exact hsh)
    by_cases hbig : (s.size : Int) < a
    · go_enter Tryd.func20, Tryd.ntmps20
      go_wp2
      go_ret2
      exact ⟨ret_two (by rw [hr.out]; rfl) (by rw [hr.out]; rfl), rfl⟩
    · have hbig' : a ≤ (s.size : Int) := by omega
      have hsh' : (s.size : Int) - a < size := by omega
      clear hsh hbig
      go_enter Tryd.func20, Tryd.ntmps20
      go_wp2
      go_ret2
      exact ⟨ret_two (by rw [hr.out]; rfl) (by rw [hr.out]; rfl), rfl⟩
  · have hr : Hid (Oct.get s.data.toList a size = (Oct.be ((s.data.toList.drop a.toNat).take size.toNat), 0)) := Oct.get_ok h1 h4 h0 (by rw [hL.out]; omega)
    obtain ⟨p, rfl⟩ := Int.eq_ofNat_of_zero_le h0
    obtain ⟨m, rfl⟩ := Int.eq_ofNat_of_zero_le (show 0 ≤ size by omega)
    have hpm : p + m ≤ s.size := by omega
    have hm4 : m ≤ 4 := by omega
    have hb1 : (p : Int) ≤ (s.size : Int) := by omega
    have hb2 : (m : Int) ≤ (s.size : Int) - (p : Int) := by omega
    have hr' : Hid (Oct.get s.data.toList p m = (Oct.be ((s.data.toList.drop p).take m), 0)) := by have := hr.out; rw [Int.toNat_natCast, Int.toNat_natCast] at this; exact this
    have d1 : decide ((m : Int) < 1) = false := by simp; omega
    have d2 : decide (4 < (m : Int)) = false := by simp; omega
    have d3 : decide ((p : Int) < 0) = false := by simp
    have d4 : decide (s.size < p) = false := by simp; omega
    have d5 : decide ((s.size : Int) - (p : Int) < (m : Int)) = false := by simp; omega
    clear hr hsh
    go_enter Tryd.func20, Tryd.ntmps20
    go_wp2
    go_loop [8, 33] (fun n i => ∃ k : Nat, k ≤ m ∧ i = .int .i64 k ∧ n = .int .i64 (Oct.be ((s.data.toList.drop p).take k))) (fun _ i => m - (intOf i).toNat)
    case atStart => exact ⟨0, Nat.zero_le _, rfl, rfl⟩
    case round =>
      obtain ⟨k, hk, rfl, rfl⟩ := hrel
      by_cases hlt : k < m
      · have hbd := Oct.be_take_lt s p k (by omega)
        have hc := UInt8.toNat_lt s[p + k]
        have HS : Hid (Oct.be ((s.data.toList.drop p).take (k + 1)) = Oct.be ((s.data.toList.drop p).take k) * 256 + s[p + k].toNat) := Oct.be_step s p k (by omega)
        go_wp2
        go_round
        case rel => exact ⟨k + 1, by omega, by go_num, by rw [HS.out]; go_num⟩
        case measure => simp [intOf]; omega
      · go_wp2
        go_ret2
        have hkm : k = m := by omega
        subst hkm
        exact ⟨ret_two (by rw [hr'.out]) (by rw [hr'.out]; rfl), rfl⟩
end Go.Proofs.YtakgmpebgaiinaaDoor
