/-
  Layer 9: Offer, ParseOffer; the document's letters, Offer, ParseOffer, Choose.
-/
import Derived.Test.YtpndcbilnbihaaaGs1
namespace Go.Proofs.Ytpndcbilnbihaaa
open Go.RowKit

namespace Gr
/-- P9.6 -/
def offer (s : ByteArray) : ByteArray × Int := if lets s.data.toList = true then (⟨#[80]⟩ ++ s, 0) else (⟨#[]⟩, 1)
def poffer (s : ByteArray) : ByteArray × Int := if Lib.hasPrefix s.data.toList [80] = true ∧ lets (s.data.toList.drop 1) = true then (⟨(s.data.toList.drop 1).toArray⟩, 0) else (⟨#[]⟩, 3)
theorem trim1 {s : ByteArray} (h : Lib.hasPrefix s.data.toList [80] = true) : Lib.trimPrefix s.data.toList [80] = s.data.toList.drop 1 := by unfold Lib.trimPrefix; rw [if_pos h]; rfl
theorem pre1 (s : ByteArray) (h : 0 < s.size) : Lib.hasPrefix s.data.toList [80] = (s[0] == 80) := by
  have := drop_at s 0 h
  rw [List.drop_zero] at this
  rw [this]
  unfold Lib.hasPrefix
  simp only [List.isPrefixOf, Bool.and_true]
  exact Bool.beq_comm
theorem pre1_nil (s : ByteArray) (h : ¬ 0 < s.size) : Lib.hasPrefix s.data.toList [80] = false := by
  have := drop_end s 0 h
  rw [List.drop_zero] at this
  rw [this]; rfl
theorem drop1_len (s : ByteArray) (h : s.size ≤ 1) : s.data.toList.drop 1 = [] := drop_end s 1 (by omega)
theorem mem_take (s : ByteArray) (k i : Nat) (hk : k < i) (hi : i < s.size) (h : s[k] = s[i]) : s[i] ∈ s.data.toList.take i := by
  rw [← h, List.mem_take_iff_getElem]
  have hz : s.data.size = s.size := rfl
  exact ⟨k, by rw [Array.length_toList]; omega, rfl⟩
theorem not_take_snoc (s : ByteArray) (k : Nat) (h : k < s.size) (c : UInt8) (h1 : ¬ c ∈ s.data.toList.take k) (h2 : ¬ s[k] = c) : ¬ c ∈ s.data.toList.take (k + 1) := by
  rw [Oct.take_snoc s k h]
  simp only [List.mem_append, List.mem_singleton, not_or]
  exact ⟨h1, fun e => h2 e.symm⟩
theorem byte_eq {a b : UInt8} (h : (a.toNat : Int) = (b.toNat : Int)) : a = b := UInt8.toNat_inj.1 (by omega)
end Gr

theorem known_any (c : UInt8) (w : World) : Calls Try.prog 35 #[.int .u8 (c.toNat : Int)] w fun e w' => e = .returned (.bool (Gr.known c)) ∧ w' = w := by
  by_cases h0 : c = 103
  · subst h0
    go_enter Try.func35, Try.ntmps35
    go_wp2
    go_ret
    exact ⟨rfl, rfl⟩
  · by_cases h1 : c = 71
    · subst h1
      go_enter Try.func35, Try.ntmps35
      go_wp2
      go_ret
      exact ⟨rfl, rfl⟩
    · by_cases h2 : c = 105
      · subst h2
        go_enter Try.func35, Try.ntmps35
        go_wp2
        go_ret
        exact ⟨rfl, rfl⟩
      · by_cases h3 : c = 101
        · subst h3
          go_enter Try.func35, Try.ntmps35
          go_wp2
          go_ret
          exact ⟨rfl, rfl⟩
        · have hr : Hid (Gr.known c = false) := by show _ = _; simp [Gr.known, h0, h1, h2, h3]
          have d0 : ((c.toNat : Int) == 103) = false := by rw [beq_eq_false_iff_ne]; intro h; exact h0 (Gr.u8_eq (n := 103) (by omega) h)
          have d1 : ((c.toNat : Int) == 71) = false := by rw [beq_eq_false_iff_ne]; intro h; exact h1 (Gr.u8_eq (n := 71) (by omega) h)
          have d2 : ((c.toNat : Int) == 105) = false := by rw [beq_eq_false_iff_ne]; intro h; exact h2 (Gr.u8_eq (n := 105) (by omega) h)
          have d3 : ((c.toNat : Int) == 101) = false := by rw [beq_eq_false_iff_ne]; intro h; exact h3 (Gr.u8_eq (n := 101) (by omega) h)
          clear h0 h1 h2 h3
          go_enter Try.func35, Try.ntmps35
          go_wp2
          go_ret
          exact ⟨ret_bool hr.out.symm, rfl⟩

set_option maxHeartbeats 2000000 in
set_option maxRecDepth 100000 in
theorem refLetters_any (s : ByteArray) (w : World) (hs : s.size ≤ maxLen) :
    Calls Try.prog 33 #[.string s] w fun e w' => e = .returned (.bool (Gr.lets s.data.toList)) ∧ Below w.heap.size w w' := by
  unfold maxLen at hs
  obtain ⟨T, hT⟩ : ∃ T, Gr.lets s.data.toList = T := ⟨_, rfl⟩
  have hTh : Hid (Gr.lets s.data.toList = T) := hT
  rw [hT]
  clear hT
  go_enter Try.func33, Try.ntmps33
  go_wp2
  go_loopw [7] (fun iv W => ∃ i : Nat, i ≤ s.size ∧ iv = .int .i64 i ∧ Hid (Gr.okPre (s.data.toList.take i) = true) ∧ Below w.heap.size w W) (fun iv _ => s.size - (intOf iv).toNat)
  case atStart => exact ⟨0, Nat.zero_le _, rfl, rfl, Below.refl _ _⟩
  case round =>
    obtain ⟨i, hi, rfl, hok, hbw⟩ := hrel
    by_cases hlt : i < s.size
    · have HK : Hid (∀ W, Calls Try.prog 35 #[.int .u8 (s[i].toNat : Int)] W fun e w' => e = .returned (.bool (Gr.known s[i])) ∧ W = w') := fun W => (known_any s[i] W).mono fun e w' h => ⟨h.1, h.2.symm⟩
      cases hk : Gr.known s[i] with
      | false =>
        have hr : Hid (T = false) := by show _ = _; rw [← hTh.out]; exact Gr.lets_unknown s i hlt hk
        rw [hk] at HK
        clear hk hok
        go_wp2_with (go_at_call 35; refine (HK.out _).mono ?_; rintro e w' ⟨rfl, rfl⟩)
        go_ret
        exact ⟨ret_bool hr.out.symm, hbw⟩
      | true =>
        have hnx : Hid (¬ s[i] ∈ s.data.toList.take i → Gr.okPre (s.data.toList.take (i + 1)) = true) := Gr.pre_snoc s i hlt hok.out hk
        rw [hk] at HK
        clear hk hok
        go_wp2_with (go_at_call 35; refine (HK.out _).mono ?_; rintro e w' ⟨rfl, rfl⟩)
        clear HK
        go_loopw [16] (fun kv W => ∃ k : Nat, k ≤ i ∧ kv = .int .i64 k ∧ Hid (¬ s[i] ∈ s.data.toList.take k) ∧ Below w.heap.size w W) (fun kv _ => i - (intOf kv).toNat)
        case atStart => exact ⟨0, Nat.zero_le _, rfl, (by show ¬ _; simp), hbw⟩
        case round =>
          clear hbw
          obtain ⟨k, hki, rfl, hno, hbw⟩ := hrel
          by_cases hkl : k < i
          · have hks : k < s.size := by omega
            by_cases he : (s[k].toNat : Int) = (s[i].toNat : Int)
            · have hr : Hid (T = false) := by show _ = _; rw [← hTh.out]; exact Gr.lets_twice s i hlt (Gr.mem_take s k i hkl hlt (Gr.byte_eq he))
              have d0 : ((s[k].toNat : Int) == (s[i].toNat : Int)) = true := by rw [beq_iff_eq]; exact he
              clear hno hnx he
              go_wp2
              go_quiet (skip)
              go_wp2
              go_ret
              exact ⟨ret_bool hr.out.symm, bel_dN hbw _⟩
            · have d0 : ((s[k].toNat : Int) == (s[i].toNat : Int)) = false := by rw [beq_eq_false_iff_ne]; exact he
              have hn2 : Hid (¬ s[i] ∈ s.data.toList.take (k + 1)) := Gr.not_take_snoc s k hks s[i] hno.out (fun e => he (by rw [e]))
              clear hno hnx he
              go_wp2
              go_quiet (skip)
              go_wp2
              go_roundw
              case rel => exact ⟨k + 1, by omega, by go_num, hn2, bel_dN hbw _⟩
              case measure => simp [intOf]; omega
          · obtain rfl : k = i := by omega
            have hn2 : Hid (Gr.okPre (s.data.toList.take (k + 1)) = true) := hnx.out hno.out
            clear hno hnx
            go_wp2
            go_roundw
            case rel => exact ⟨k + 1, by omega, by go_num, hn2, hbw⟩
            case measure => simp [intOf]; omega
    · have hpre : Gr.okPre s.data.toList = true := by have := hok.out; rwa [Oct.take_all s i (by omega)] at this
      by_cases he : s = ⟨#[]⟩
      · have hr : Hid (T = false) := by show _ = _; rw [← hTh.out, he]; rfl
        have hem : (s.toList != []) = false := by rw [he, ByteArray.toList_eq]; rfl
        have hem1 : s.toList.isEmpty = true := empty_true he
        clear he hpre hok
        go_wp2
        go_ret
        exact ⟨ret_bool hr.out.symm, hbw⟩
      · have hr : Hid (T = true) := by show _ = _; rw [← hTh.out]; exact Gr.lets_all s hpre he
        have hem0 := nil_false he
        have hem1 := empty_false he
        have hem : (s.toList != []) = true := by rw [bne, hem0]; rfl
        clear he hpre hok
        go_wp2
        go_ret
        exact ⟨ret_bool hr.out.symm, hbw⟩
end Go.Proofs.Ytpndcbilnbihaaa
