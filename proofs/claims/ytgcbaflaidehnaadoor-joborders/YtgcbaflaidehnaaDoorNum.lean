/-
  Walks of layer 1: octet.areDigits, octet.Number, the document's Number.
-/
import Derived.Test.YtgcbaflaidehnaaDoorRet
import Derived.Test.YtgcbaflaidehnaaDoorProg
import Derived.Test.YtgcbaflaidehnaaDoorMathBun
import Derived.WalkKit
namespace Go.Proofs.YtgcbaflaidehnaaDoor
open Go.RowKit


set_option maxHeartbeats 400000 in
theorem areDigits_any (s : ByteArray) (w : World) (hs : s.size ≤ maxLen) :
    Calls Tryd.prog 44 #[.string s] w fun e w' => e = .returned (.bool (Oct.areDig s.data.toList)) ∧ w' = w := by
  unfold maxLen at hs
  go_enter Tryd.func44, Tryd.ntmps44
  go_wp2
  go_loop [6] (fun i => ∃ k : Nat, k ≤ s.size ∧ i = .int .i64 k ∧ Hid ((s.data.toList.take k).all Oct.isDig = true)) (fun i => s.size - (intOf i).toNat)
  case atStart => exact ⟨0, Nat.zero_le _, rfl, rfl⟩
  case round =>
    obtain ⟨k, hk, rfl, hall⟩ := hrel
    by_cases hlt : k < s.size
    · by_cases h0 : 48 ≤ (s[k].toNat : Int)
      · by_cases h1 : (s[k].toNat : Int) ≤ 57
        · have hn : Hid ((s.data.toList.take (k + 1)).all Oct.isDig = true) := Oct.all_snoc s k hlt hall.out (Oct.isDig_true h0 h1)
          go_wp2
          go_round
          case rel => exact ⟨k + 1, by omega, by go_num, hn⟩
          case measure => simp [intOf]; omega
        · have hn : Hid (Oct.areDig s.data.toList = false) := Oct.areDig_not s k hlt (Oct.isDig_high (by omega))
          go_wp2
          go_ret
          exact ⟨ret_bool hn.out.symm, rfl⟩
      · have hn : Hid (Oct.areDig s.data.toList = false) := Oct.areDig_not s k hlt (Oct.isDig_low (by omega))
        go_wp2
        go_ret
        exact ⟨ret_bool hn.out.symm, rfl⟩
    · have hn : Hid (s.data.toList.all Oct.isDig = true) := by have := hall.out; rwa [Oct.take_all s k (by omega)] at this
      go_wp2
      go_ret
      exact ⟨ret_bool (by unfold Oct.areDig; rw [hn.out, ByteArray.toList_eq]; rfl), rfl⟩
theorem areDigits_yes (s : ByteArray) (w : World) (hs : s.size ≤ maxLen) (h : Oct.areDig s.data.toList = true) :
    Calls Tryd.prog 44 #[.string s] w fun e w' => e = .returned (.bool true) ∧ w' = w := by
  have := areDigits_any s w hs; rwa [h] at this
theorem areDigits_no (s : ByteArray) (w : World) (hs : s.size ≤ maxLen) (h : Oct.areDig s.data.toList = false) :
    Calls Tryd.prog 44 #[.string s] w fun e w' => e = .returned (.bool false) ∧ w' = w := by
  have := areDigits_any s w hs; rwa [h] at this

theorem ret_two {a b c d : Int} (h : a = c) (h' : b = d) : Ending.returned (.tuple #[.int .i64 a, .int .i64 b]) = .returned (.tuple #[.int .i64 c, .int .i64 d]) := by rw [h, h']

set_option maxHeartbeats 400000 in
theorem number_any (s : ByteArray) (w : World) (hs : s.size ≤ maxLen) :
    Calls Tryd.prog 34 #[.string s] w fun e w' => e = .returned (.tuple #[.int .i64 (Oct.number s.data.toList).1, .int .i64 (Oct.number s.data.toList).2]) ∧ w' = w := by
  have hs' := hs
  unfold maxLen at hs
  have hlen := Oct.len_eq s
  cases ha : Oct.areDig s.data.toList with
  | false =>
    have hr : Hid (Oct.number s.data.toList = (0, 3)) := Oct.number_form ha
    have HA := areDigits_no s w hs' ha
    clear ha hlen
    go_enter Tryd.func34, Tryd.ntmps34
    go_wp2_with (go_at_call 44; refine HA.mono ?_; rintro e w' ⟨rfl, rfl⟩)
    go_ret2
    exact ⟨ret_two (by rw [hr.out]; rfl) (by rw [hr.out]; rfl), rfl⟩
  | true =>
    have HA := areDigits_yes s w hs' ha
    have hall := Oct.areDig_all ha
    have hpos : 0 < s.size := by have := Oct.areDig_pos ha; omega
    by_cases hz : 1 < s.size ∧ (s[0].toNat : Int) = 48
    · have hr : Hid (Oct.number s.data.toList = (0, 3)) := Oct.number_zero (by omega) (by rw [Oct.headD_at s hpos]; exact UInt8.toNat_inj.1 (by have := hz.2; show s[0].toNat = 48; omega))
      have hb : ((s[0].toNat : Int) == 48) = true := by rw [beq_iff_eq]; exact hz.2
      have h1 : 1 < s.size := hz.1
      clear ha hlen hall hz
      go_enter Tryd.func34, Tryd.ntmps34
      go_wp2_with (go_at_call 44; refine HA.mono ?_; rintro e w' ⟨rfl, rfl⟩)
      go_ret2
      exact ⟨ret_two (by rw [hr.out]; rfl) (by rw [hr.out]; rfl), rfl⟩
    · have hre : Hid (Oct.number s.data.toList = if 13 < s.data.toList.length then (0, 5) else if 1099511627776 < Oct.numTo s.data.toList then (0, 5) else (Oct.numTo s.data.toList, 0)) :=
        Oct.number_else ha (by rw [Oct.headD_at s hpos, hlen]; intro h; exact hz ⟨h.1, by rw [h.2]; rfl⟩)
      have hH : Hid (s.data.toList.all Oct.isDig = true) := hall
      have hL : Hid (s.data.toList.length = s.size) := hlen
      have hcase : s.size ≤ 1 ∨ (1 < s.size ∧ ((s[0].toNat : Int) == 48) = false) := by
        by_cases h1 : 1 < s.size
        · right; refine ⟨h1, ?_⟩; rw [beq_eq_false_iff_ne]; exact fun h => hz ⟨h1, h⟩
        · left; omega
      clear ha hlen hall hz
      by_cases h13 : 13 < s.size
      · have hr : Hid (Oct.number s.data.toList = (0, 5)) := by have := hre.out; rw [hL.out, if_pos h13] at this; exact this
        have h1 : 1 < s.size := by omega
        have hb : ((s[0].toNat : Int) == 48) = false := by rcases hcase with h | h; omega; exact h.2
        clear hcase
        go_enter Tryd.func34, Tryd.ntmps34
        go_wp2_with (go_at_call 44; refine HA.mono ?_; rintro e w' ⟨rfl, rfl⟩)
        go_ret2
        exact ⟨ret_two (by rw [hr.out]; rfl) (by rw [hr.out]; rfl), rfl⟩
      · have hr : Hid (Oct.number s.data.toList = if 1099511627776 < Oct.numTo s.data.toList then (0, 5) else (Oct.numTo s.data.toList, 0)) := by have := hre.out; rw [hL.out, if_neg h13] at this; exact this
        have h13' : s.size ≤ 13 := by omega
        clear hre h13
        rcases hcase with h1 | ⟨h1, hb⟩
        all_goals
          go_enter Tryd.func34, Tryd.ntmps34
          go_wp2_with (go_at_call 44; refine HA.mono ?_; rintro e w' ⟨rfl, rfl⟩)
          go_loop [4, 24] (fun n i => ∃ k : Nat, k ≤ s.size ∧ i = .int .i64 k ∧ n = .int .i64 (Oct.numTo (s.data.toList.take k))) (fun _ i => s.size - (intOf i).toNat)
          case atStart => exact ⟨0, Nat.zero_le _, rfl, rfl⟩
          case round =>
            obtain ⟨k, hk, rfl, rfl⟩ := hrel
            have hbd := Oct.numTo_take_lt s k (by omega) hH.out
            by_cases hlt : k < s.size
            · have hd := Oct.isDig_le (Oct.take_dig s k hlt hH.out)
              have hd0 : 48 ≤ (s[k].toNat : Int) := by omega
              have hd1 : (s[k].toNat : Int) ≤ 57 := by omega
              have HS : Hid ((Oct.numTo (s.data.toList.take (k + 1)) : Int) = (Oct.numTo (s.data.toList.take k) : Int) * 10 + ((s[k].toNat : Int) - 48)) := Oct.numTo_take s k hlt hH.out
              clear hd
              go_wp2
              go_round
              case rel => exact ⟨k + 1, by omega, by go_num, by rw [HS.out]⟩
              case measure => simp [intOf]; omega
            · have HS : Hid (s.data.toList.take k = s.data.toList) := Oct.take_all s k (by omega)
              by_cases hbig : 1099511627776 < (Oct.numTo (s.data.toList.take k) : Int)
              · have hr2 : Hid (Oct.number s.data.toList = (0, 5)) := by
                  have h1 := hbig; rw [HS.out] at h1
                  have h2 := hr.out; rw [if_pos (by omega)] at h2; exact h2
                go_wp2
                go_ret2
                exact ⟨ret_two (by rw [hr2.out]; rfl) (by rw [hr2.out]; rfl), rfl⟩
              · have hr2 : Hid (Oct.number s.data.toList = (Oct.numTo (s.data.toList.take k), 0)) := by
                  have h1 := hbig; rw [HS.out] at h1
                  have h2 := hr.out; rw [if_neg (by omega)] at h2; rw [HS.out]; exact h2
                go_wp2
                go_ret2
                exact ⟨ret_two (by rw [hr2.out]) (by rw [hr2.out]; rfl), rfl⟩

end Go.Proofs.YtgcbaflaidehnaaDoor
