/-
  The document's System (after Nam5, for seats without numbers' texts).
-/
import Derived.Test.YtpndcbilnbihaaaDoorNam2
namespace Go.Proofs.YtpndcbilnbihaaaDoor
open Go.RowKit

namespace Nam
theorem okc_dg {c : UInt8} (h0 : 48 ≤ (c.toNat : Int)) (h1 : (c.toNat : Int) ≤ 57) : okc c = true := by simp [okc, dg, h0, h1]
theorem okc_sm {c : UInt8} (h0 : 97 ≤ (c.toNat : Int)) (h1 : (c.toNat : Int) ≤ 122) : okc c = true := by simp [okc, sm, h0, h1]
theorem dg_sm {c : UInt8} (h0 : 97 ≤ (c.toNat : Int)) : dg (c.toNat : Int) = false := by
  have : ¬ (c.toNat : Int) ≤ 57 := by omega
  unfold dg; rw [decide_eq_false this, Bool.and_false]
theorem okc_bad {c : UInt8} (h : (c.toNat : Int) < 48 ∨ (57 < (c.toNat : Int) ∧ (c.toNat : Int) < 97) ∨ 122 < (c.toNat : Int)) : okc c = false := by
  cases e : okc c with
  | false => rfl
  | true => simp [okc, dg, sm] at e; omega
theorem system_head {s : ByteArray} (hp : 0 < s.size) (h : (s[0].toNat : Int) < 97 ∨ 122 < (s[0].toNat : Int)) : system s.data.toList = false := by
  by_cases hd : dg (s[0].toNat : Int) = true
  · exact system_dig (by rw [Oct.headD_at s hp]; exact hd)
  · refine system_not (Oct.mem_at s 0 hp) ?_
    apply okc_bad
    simp [dg] at hd
    omega
end Nam

set_option maxHeartbeats 2000000 in
theorem refSystem_any (s : ByteArray) (w : World) (hs : s.size ≤ maxLen) :
    Calls Tryd.prog 23 #[.string s] w fun e w' => e = .returned (.bool (Nam.system s.data.toList)) ∧ w' = w := by
  unfold maxLen at hs
  have hlen := Oct.len_eq s
  by_cases h0 : s.size < 1
  · have hr : Hid (Nam.system s.data.toList = false) := Nam.system_empty (by omega)
    clear hlen
    go_enter Tryd.func23, Tryd.ntmps23
    go_wp2
    go_ret
    exact ⟨ret_bool hr.out.symm, rfl⟩
  · by_cases h7 : 7 < s.size
    · have hr : Hid (Nam.system s.data.toList = false) := Nam.system_long (by omega)
      clear hlen
      go_enter Tryd.func23, Tryd.ntmps23
      go_wp2
      go_ret
      exact ⟨ret_bool hr.out.symm, rfl⟩
    · have hp : 0 < s.size := by omega
      have hh := Oct.headD_at s hp
      have hfin : Hid (s.data.toList.all Nam.okc = true → Nam.dg (s[0].toNat : Int) = false → Nam.system s.data.toList = true) := fun h hd => Nam.system_yes (by omega) (by omega) (by rw [hh]; exact hd) h
      clear hlen hh
      go_enter Tryd.func23, Tryd.ntmps23
      go_wp2
      go_loop [14] (fun i => ∃ k : Nat, k ≤ s.size ∧ i = .int .i64 k ∧ Hid ((s.data.toList.take k).all Nam.okc = true) ∧ Hid (0 < k → Nam.dg (s[0].toNat : Int) = false)) (fun i => s.size - (intOf i).toNat)
      case atStart => exact ⟨0, Nat.zero_le _, rfl, rfl, fun h => absurd h (by decide)⟩
      case round =>
        obtain ⟨k, hk, rfl, hall, hd⟩ := hrel
        by_cases hlt : k < s.size
        · have hbd := s[k].toNat_lt
          by_cases hk0 : k = 0
          · subst hk0
            by_cases h97 : (s[0].toNat : Int) < 97
            · have hr : Hid (Nam.system s.data.toList = false) := Nam.system_head hp (Or.inl h97)
              go_wp2
              go_ret
              exact ⟨ret_bool hr.out.symm, rfl⟩
            · by_cases h122 : 122 < (s[0].toNat : Int)
              · have hr : Hid (Nam.system s.data.toList = false) := Nam.system_head hp (Or.inr h122)
                go_wp2
                go_ret
                exact ⟨ret_bool hr.out.symm, rfl⟩
              · have hn : Hid ((s.data.toList.take (0 + 1)).all Nam.okc = true) := Nam.okc_snoc s 0 hlt hall.out (Nam.okc_sm (by omega) (by omega))
                have hd' : Hid (0 < 0 + 1 → Nam.dg (s[0].toNat : Int) = false) := fun _ => Nam.dg_sm (by omega)
                clear hbd
                go_wp2
                go_round
                case rel => exact ⟨1, by omega, by go_num, hn, hd'⟩
                case measure => simp [intOf]; omega
          · have hd0 : Hid (Nam.dg (s[0].toNat : Int) = false) := hd.out (by omega)
            have k0 : ((k : Int) == 0) = false := by rw [beq_eq_false_iff_ne]; omega
            have k0' : (k == 0) = false := by rw [beq_eq_false_iff_ne]; omega
            clear hk0 hd
            by_cases h97 : (s[k].toNat : Int) < 97
            · by_cases h48 : (s[k].toNat : Int) < 48
              · have hr : Hid (Nam.system s.data.toList = false) := Nam.system_not (Oct.mem_at s k hlt) (Nam.okc_bad (Or.inl h48))
                go_wp2
                go_ret
                exact ⟨ret_bool hr.out.symm, rfl⟩
              · by_cases h57 : 57 < (s[k].toNat : Int)
                · have hr : Hid (Nam.system s.data.toList = false) := Nam.system_not (Oct.mem_at s k hlt) (Nam.okc_bad (Or.inr (Or.inl ⟨h57, h97⟩)))
                  go_wp2
                  go_ret
                  exact ⟨ret_bool hr.out.symm, rfl⟩
                · have hx : Nam.okc s[k] = true := Nam.okc_dg (by omega) (by omega)
                  have hn : Hid ((s.data.toList.take (k + 1)).all Nam.okc = true) := Nam.okc_snoc s k hlt hall.out hx
                  have hd' : Hid (0 < k + 1 → Nam.dg (s[0].toNat : Int) = false) := fun _ => hd0.out
                  clear hbd hx
                  go_wp2
                  go_round
                  case rel => exact ⟨k + 1, by omega, by go_num, hn, hd'⟩
                  case measure => simp [intOf]; omega
            · by_cases h122 : 122 < (s[k].toNat : Int)
              · have hr : Hid (Nam.system s.data.toList = false) := Nam.system_not (Oct.mem_at s k hlt) (Nam.okc_bad (Or.inr (Or.inr h122)))
                have h48 : ¬ (s[k].toNat : Int) < 48 := by omega
                have h57 : 57 < (s[k].toNat : Int) := by omega
                go_wp2
                go_ret
                exact ⟨ret_bool hr.out.symm, rfl⟩
              · have hx : Nam.okc s[k] = true := Nam.okc_sm (by omega) (by omega)
                have hn : Hid ((s.data.toList.take (k + 1)).all Nam.okc = true) := Nam.okc_snoc s k hlt hall.out hx
                have hd' : Hid (0 < k + 1 → Nam.dg (s[0].toNat : Int) = false) := fun _ => hd0.out
                clear hbd hx
                go_wp2
                go_round
                case rel => exact ⟨k + 1, by omega, by go_num, hn, hd'⟩
                case measure => simp [intOf]; omega
        · have hn : Hid (Nam.system s.data.toList = true) := hfin.out (by have := hall.out; rwa [Oct.take_all s k (by omega)] at this) (hd.out (by omega))
          go_wp2
          go_ret
          exact ⟨ret_bool hn.out.symm, rfl⟩
end Go.Proofs.YtpndcbilnbihaaaDoor
