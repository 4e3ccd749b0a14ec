/-
  Walks of layer 3: System, isFileKind, isNoteKind, Less and the document's Grade, System, kind.
-/
import Derived.Test.YtpndcbilnbihaabDoorNam1
import Derived.Deep.QuietTactic
import Derived.BigQuiet
namespace Go.Proofs.YtpndcbilnbihaabDoor
open Go.RowKit
namespace Nam
theorem system_empty {l : List UInt8} (h : l.length = 0) : system l = false := by simp [system, h]
theorem system_long {l : List UInt8} (h : 7 < l.length) : system l = false := by
  have : ¬ l.length ≤ 7 := by omega
  simp [system, this]
theorem system_dig {l : List UInt8} (h : dg ((l.headD 0).toNat : Int) = true) : system l = false := by unfold system; rw [h]; simp
theorem system_not {l : List UInt8} {c : UInt8} (h : c ∈ l) (hc : okc c = false) : system l = false := by
  have : l.all okc = false := by rw [List.all_eq_false]; exact ⟨c, h, by simp [hc]⟩
  simp [system, this]
theorem system_yes {l : List UInt8} (h0 : 1 ≤ l.length) (h1 : l.length ≤ 7) (h2 : dg ((l.headD 0).toNat : Int) = false) (h3 : l.all okc = true) : system l = true := by
  simp only [system, h0, h1, h2, h3, decide_true, Bool.and_self, Bool.not_false]
theorem okc_snoc (s : ByteArray) (k : Nat) (h : k < s.size) (h1 : (s.data.toList.take k).all okc = true) (h2 : okc s[k] = true) : (s.data.toList.take (k + 1)).all okc = true := by
  rw [Oct.take_snoc s k h, List.all_append, h1]; simp [h2]
end Nam

theorem wrap_byte (c : UInt8) : wrap64 (c.toNat : Int) = (c.toNat : Int) := by
  have := c.toNat_lt; unfold wrap64; omega
theorem isDigit_byte (c : UInt8) (w : World) : Calls Tryd.prog 29 #[.int .i64 (wrap64 (c.toNat : Int))] w fun e w' => e = .returned (.bool (Nam.dg (c.toNat : Int))) ∧ w' = w := by
  rw [wrap_byte]; exact isDigit_any _ w
theorem isSmall_byte (c : UInt8) (w : World) : Calls Tryd.prog 30 #[.int .i64 (wrap64 (c.toNat : Int))] w fun e w' => e = .returned (.bool (Nam.sm (c.toNat : Int))) ∧ w' = w := by
  rw [wrap_byte]; exact isSmall_any _ w

set_option maxHeartbeats 1000000 in
theorem system_any (s : ByteArray) (w : World) (hs : s.size ≤ maxLen) :
    Calls Tryd.prog 17 #[.string s] w fun e w' => e = .returned (.bool (Nam.system s.data.toList)) ∧ w' = w := by
  unfold maxLen at hs
  have hlen := Oct.len_eq s
  by_cases h0 : s.size = 0
  · have hr : Hid (Nam.system s.data.toList = false) := Nam.system_empty (by omega)
    have hz : s = ⟨#[]⟩ := ByteArray.ext (Array.eq_empty_of_size_eq_zero h0)
    clear hlen
    subst hz
    go_enter Tryd.func17, Tryd.ntmps17
    go_wp2
    go_ret
    exact ⟨ret_bool hr.out.symm, rfl⟩
  · have hz : (s.toList == []) = false := by
      rw [beq_eq_false_iff_ne]; intro h; rw [ByteArray.toList_eq] at h; rw [h] at hlen; exact h0 hlen.symm
    by_cases h7 : 7 < s.size
    · have hr : Hid (Nam.system s.data.toList = false) := Nam.system_long (by omega)
      clear hlen
      go_enter Tryd.func17, Tryd.ntmps17
      go_wp2
      go_ret
      exact ⟨ret_bool hr.out.symm, rfl⟩
    · have hp : 0 < s.size := by omega
      have hh := Oct.headD_at s hp
      have H1 : Hid (∀ w : World, Calls Tryd.prog 29 #[.int .i64 (wrap64 (s[0].toNat : Int))] w fun e w' => e = .returned (.bool (Nam.dg (s[0].toNat : Int))) ∧ w' = w) := fun w => isDigit_byte _ w
      cases hd : Nam.dg (s[0].toNat : Int) with
      | true =>
        have hr : Hid (Nam.system s.data.toList = false) := Nam.system_dig (by rw [hh]; exact hd)
        rw [hd] at H1
        clear hlen hh hd
        go_enter Tryd.func17, Tryd.ntmps17
        go_wp2_with (go_at_call 29; refine (H1.out _).mono ?_; rintro e w' ⟨rfl, rfl⟩)
        go_ret
        exact ⟨ret_bool hr.out.symm, rfl⟩
      | false =>
        have hfin : Hid (s.data.toList.all Nam.okc = true → Nam.system s.data.toList = true) := fun h => Nam.system_yes (by omega) (by omega) (by rw [hh]; exact hd) h
        rw [hd] at H1
        clear hlen hh hd
        go_enter Tryd.func17, Tryd.ntmps17
        go_wp2_with (go_at_call 29; refine (H1.out _).mono ?_; rintro e w' ⟨rfl, rfl⟩)
        go_loop [20] (fun i => ∃ k : Nat, k ≤ s.size ∧ i = .int .i64 k ∧ Hid ((s.data.toList.take k).all Nam.okc = true)) (fun i => s.size - (intOf i).toNat)
        case atStart => exact ⟨0, Nat.zero_le _, rfl, rfl⟩
        case round =>
          obtain ⟨k, hk, rfl, hall⟩ := hrel
          by_cases hlt : k < s.size
          · have G1 : Hid (∀ w : World, Calls Tryd.prog 29 #[.int .i64 (wrap64 (s[k].toNat : Int))] w fun e w' => e = .returned (.bool (Nam.dg (s[k].toNat : Int))) ∧ w' = w) := fun w => isDigit_byte _ w
            have G2 : Hid (∀ w : World, Calls Tryd.prog 30 #[.int .i64 (wrap64 (s[k].toNat : Int))] w fun e w' => e = .returned (.bool (Nam.sm (s[k].toNat : Int))) ∧ w' = w) := fun w => isSmall_byte _ w
            have hok : Hid (Nam.okc s[k] = (Nam.dg (s[k].toNat : Int) || Nam.sm (s[k].toNat : Int))) := rfl
            have hnot : Hid (Nam.okc s[k] = false → Nam.system s.data.toList = false) := Nam.system_not (Oct.mem_at s k hlt)
            have hyes : Hid (Nam.okc s[k] = true → (s.data.toList.take (k + 1)).all Nam.okc = true) := Nam.okc_snoc s k hlt hall.out
            generalize Nam.dg (s[k].toNat : Int) = a at *
            generalize Nam.sm (s[k].toNat : Int) = b at *
            generalize Nam.okc s[k] = o at *
            cases a
            · cases b
              · have hr : Hid (Nam.system s.data.toList = false) := hnot.out hok.out
                go_wp2_with (go_at_call 29; refine (G1.out _).mono ?_; rintro e w' ⟨rfl, rfl⟩)
                go_wp2_with (go_at_call 30; refine (G2.out _).mono ?_; rintro e w' ⟨rfl, rfl⟩)
                go_ret
                exact ⟨ret_bool hr.out.symm, rfl⟩
              · have hn : Hid ((s.data.toList.take (k + 1)).all Nam.okc = true) := hyes.out hok.out
                go_wp2_with (go_at_call 29; refine (G1.out _).mono ?_; rintro e w' ⟨rfl, rfl⟩)
                go_wp2_with (go_at_call 30; refine (G2.out _).mono ?_; rintro e w' ⟨rfl, rfl⟩)
                go_round
                case rel => exact ⟨k + 1, by omega, by go_num, hn⟩
                case measure => simp [intOf]; omega
            · have hn : Hid ((s.data.toList.take (k + 1)).all Nam.okc = true) := hyes.out hok.out
              go_wp2_with (go_at_call 29; refine (G1.out _).mono ?_; rintro e w' ⟨rfl, rfl⟩)
              go_round
              case rel => exact ⟨k + 1, by omega, by go_num, hn⟩
              case measure => simp [intOf]; omega
          · have hn : Hid (Nam.system s.data.toList = true) := hfin.out (by have := hall.out; rwa [Oct.take_all s k (by omega)] at this)
            go_wp2
            go_ret
            exact ⟨ret_bool hn.out.symm, rfl⟩
end Go.Proofs.YtpndcbilnbihaabDoor
