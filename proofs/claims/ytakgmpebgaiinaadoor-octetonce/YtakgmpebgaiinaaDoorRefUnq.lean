/-
  Walk of layer 1: the document's Unquote.
-/
import Derived.Test.YtakgmpebgaiinaaDoorUnq
import Derived.Test.YtakgmpebgaiinaaDoorRefQuote
import Derived.Deep.RegionWith
namespace Go.Proofs.YtakgmpebgaiinaaDoor
open Go.RowKit
namespace Oct
theorem drop_zero (s : ByteArray) (k : Nat) (h : k < s.size) (h0 : 0 < (⟨(s.data.toList.drop k).toArray⟩ : ByteArray).size) : (⟨(s.data.toList.drop k).toArray⟩ : ByteArray)[0] = s[k] := by
  have e1 : (⟨(s.data.toList.drop k).toArray⟩ : ByteArray)[0] = (s.data.toList.drop k)[0]'h0 := rfl
  have e2 : s[k] = s.data.toList[k]'(by rw [len_eq]; exact h) := rfl
  rw [e1, e2, List.getElem_drop]; rfl
theorem drop_more (s : ByteArray) (k j : Nat) (h : k + j < s.size) (h0 : j < (⟨(s.data.toList.drop k).toArray⟩ : ByteArray).size) : (⟨(s.data.toList.drop k).toArray⟩ : ByteArray)[j] = s[k + j] := by
  have e1 : (⟨(s.data.toList.drop k).toArray⟩ : ByteArray)[j] = (s.data.toList.drop k)[j]'h0 := rfl
  have e2 : s[k + j] = s.data.toList[k + j]'(by rw [len_eq]; exact h) := rfl
  rw [e1, e2, List.getElem_drop]
theorem drop_size (s : ByteArray) (k : Nat) : (⟨(s.data.toList.drop k).toArray⟩ : ByteArray).size = s.size - k := by
  show (s.data.toList.drop k).length = _
  rw [List.length_drop, len_eq]
theorem at_plain (s : ByteArray) (k : Nat) (h : k < s.size) (hp : plainI (s[k].toNat : Int) = true) : unq1 (s.data.toList.drop k) = some (s[k], 1) := by
  have h0 : 0 < (⟨(s.data.toList.drop k).toArray⟩ : ByteArray).size := by rw [drop_size]; omega
  have := unq1_plain ⟨(s.data.toList.drop k).toArray⟩ h0 (by rw [drop_zero s k h]; exact hp)
  rw [drop_zero s k h] at this; exact this
theorem at_other (s : ByteArray) (k : Nat) (h : k < s.size) (hp : plainI (s[k].toNat : Int) = false) (h92 : (s[k].toNat : Int) ≠ 92) : unq1 (s.data.toList.drop k) = none := by
  have h0 : 0 < (⟨(s.data.toList.drop k).toArray⟩ : ByteArray).size := by rw [drop_size]; omega
  exact unq1_other ⟨(s.data.toList.drop k).toArray⟩ h0 (by rw [drop_zero s k h]; exact hp) (by rw [drop_zero s k h]; exact h92)
theorem at_short (s : ByteArray) (k : Nat) (h : k < s.size) (hp : plainI (s[k].toNat : Int) = false) (h3 : s.size - k < 3) : unq1 (s.data.toList.drop k) = none := by
  have h0 : 0 < (⟨(s.data.toList.drop k).toArray⟩ : ByteArray).size := by rw [drop_size]; omega
  exact unq1_short ⟨(s.data.toList.drop k).toArray⟩ h0 (by rw [drop_zero s k h]; exact hp) (by rw [drop_size]; exact h3)
theorem at_pair (s : ByteArray) (k : Nat) (h3 : k + 2 < s.size) (hp : plainI (s[k].toNat : Int) = false) (h92 : (s[k].toNat : Int) = 92) : unq1 (s.data.toList.drop k) = pair s[k + 1] s[k + 2] := by
  have h0 : 3 ≤ (⟨(s.data.toList.drop k).toArray⟩ : ByteArray).size := by rw [drop_size]; omega
  have := unq1_pair ⟨(s.data.toList.drop k).toArray⟩ h0 (by rw [drop_zero s k (by omega)]; exact hp) (by rw [drop_zero s k (by omega)]; exact h92)
  rw [drop_more s k 1 (by omega), drop_more s k 2 (by omega)] at this; exact this
theorem drop_ne (s : ByteArray) (k : Nat) (h : k < s.size) : s.data.toList.drop k ≠ [] := by
  intro e
  have := congrArg List.length e
  rw [List.length_drop, len_eq] at this
  simp at this; omega
end Oct

set_option maxHeartbeats 2000000 in
theorem refUnquote_any (s : ByteArray) (w : World) (hs : s.size ≤ 1099511627776) :
    Calls Tryd.prog 22 #[.string s] w fun e w' => e = .returned (Oct.outU (Oct.unquote s.data.toList)) ∧ Below w.heap.size w w' := by
  obtain ⟨i0, hi, hz0, hz1, hz2⟩ := info_parts Bld.infoByte
  go_enter Tryd.func22, Tryd.ntmps22
  go_wp2
  go_loopw [4, 5] (fun v i wr => ∃ (k : Nat) (acc : List UInt8), k ≤ s.size ∧ i = .int .i64 k ∧ acc.length ≤ k ∧ Hid ((Oct.unquote (s.data.toList.drop k)).map (acc ++ ·) = Oct.unquote s.data.toList) ∧ wr.ownsRow w.heap.size 5 1 v acc.length (Lib.byteCells acc) ∧ Below w.heap.size w wr) (fun _ i _ => s.size - (intOf i).toNat)
  case atStart => exact ⟨0, [], Nat.zero_le _, rfl, Nat.le_refl _, by show _ = _; simp, World.ownsRow_nil _ _ _ _, Below.refl _ w⟩
  case round =>
    obtain ⟨k, acc, hk, rfl, hak, hu, hown, hbl⟩ := hrel
    have hsz := hbl.size
    by_cases hlt : k < s.size
    rotate_left
    · have hr : Hid (Oct.unquote s.data.toList = some acc) := by
        show _ = _
        rw [← hu.out, List.drop_of_length_le (by rw [Oct.len_eq]; omega)]; simp [Oct.unquote]
      have hcv := conv_own hown
      go_wp2
      go_ret2
      exact ⟨by rw [hr.out]; rfl, hbl⟩
    have hne := Oct.drop_ne s k hlt
    cases hp : Oct.plainI (s[k].toNat : Int) with
    | true =>
      have HA := refPlain_yes (s[k].toNat : Int) wr hp
      have hu2 : Hid ((Oct.unquote (s.data.toList.drop (k + 1))).map ((acc ++ [s[k]]) ++ ·) = Oct.unquote s.data.toList) := by
        show _ = _
        rw [← hu.out, Oct.unquote_step (Oct.at_plain s k hlt hp), Option.map_map, List.drop_drop]
        congr 1
        funext z
        simp
      clear hp hne hu
      go_wp2_with (first | (go_at_call 31; refine HA.mono ?_; rintro e w' ⟨rfl, rfl⟩) | (at_builtin; refine wpList_append_own _ rfl _ _ 40 rfl w.heap.size 5 i0 (.int .u8 0) 1 1 Tryd.underlying40 hi hz0 hz1 hz2 rfl (by decide) _ _ _ rfl (hown.alloc _) ⟨_, 0, none⟩ 1 1 [.int .u8 (s[k].toNat : Int)] rfl rfl (news1 _ _) ?c2 ?c3 ?c4 ?c5 ?_))
      case c2 => intro u hu; simp at hu; subst hu; rfl
      case c3 => unfold maxLen; omega
      case c4 => omega
      case c5 => simp; omega
      intro v' w2 hown' hgrow _
      go_wp2
      go_roundw
      case rel => exact ⟨k + 1, acc ++ [s[k]], by omega, by go_num, by simp; omega, hu2, by rw [Lib.byteCells_append, List.length_append]; exact hown', below_own hbl hsz hgrow hown⟩
      case measure => simp [intOf]; omega
    | false =>
      have HA := refPlain_no (s[k].toNat : Int) wr hp
      by_cases h92 : (s[k].toNat : Int) = 92
      rotate_left
      · have hr : Hid (Oct.unquote s.data.toList = none) := by show _ = _; rw [← hu.out, Oct.unquote_none hne (Oct.at_other s k hlt hp h92)]; rfl
        have d : ((s[k].toNat : Int) != 92) = true := by rw [bne_iff_ne]; exact h92
        clear hp h92 hne hu
        go_wp2_with (go_at_call 31; refine HA.mono ?_; rintro e w' ⟨rfl, rfl⟩)
        go_ret2
        exact ⟨by rw [hr.out]; rfl, hbl⟩
      have d : ((s[k].toNat : Int) != 92) = false := by rw [bne_eq_false_iff_eq]; exact h92
      rcases Nat.lt_or_ge (s.size - k) 3 with h3 | h3
      · have hr : Hid (Oct.unquote s.data.toList = none) := by show _ = _; rw [← hu.out, Oct.unquote_none hne (Oct.at_short s k hlt hp h3)]; rfl
        have d3 : decide ((s.size : Int) - (k : Int) < 3) = true := by simp; omega
        clear hp h92 hne hu
        go_wp2_with (go_at_call 31; refine HA.mono ?_; rintro e w' ⟨rfl, rfl⟩)
        go_ret2
        exact ⟨by rw [hr.out]; rfl, hbl⟩
      have hk2 : k + 2 < s.size := by omega
      have hq := Oct.at_pair s k hk2 hp h92
      have d3 : decide ((s.size : Int) - (k : Int) < 3) = false := by simp; omega
      have b1 := Oct.digit_bd (s[k + 1].toNat : Int)
      have b2 := Oct.digit_bd (s[k + 2].toNat : Int)
      have hq' : Hid (Oct.unq1 (s.data.toList.drop k) = if Oct.digit (s[k + 1].toNat : Int) < 0 ∨ Oct.digit (s[k + 2].toNat : Int) < 0 then none
        else if Oct.plainI ((16 : Int) * Oct.digit (s[k + 1].toNat : Int) + Oct.digit (s[k + 2].toNat : Int)) = true then none
        else some (UInt8.ofNat ((16 : Int) * Oct.digit (s[k + 1].toNat : Int) + Oct.digit (s[k + 2].toNat : Int)).toNat, 3)) := hq
      have hc1 := UInt8.toNat_lt s[k + 1]
      have hc2 := UInt8.toNat_lt s[k + 2]
      have hi1 : (k : Int) + 1 < (s.size : Int) := by omega
      have hi2 : (k : Int) + 2 < (s.size : Int) := by omega
      have hw1 : IntKind.i64.wrap ((k : Int) + 1) = (k : Int) + 1 := by rw [IntKind.wrap_i64]; omega
      have hw2 : IntKind.i64.wrap ((k : Int) + 2) = (k : Int) + 2 := by rw [IntKind.wrap_i64]; omega
      have ht2 : ((k : Int) + 2).toNat = k + 2 := by omega
      clear hp h92 hq
      go_wp2_with (go_at_call 31; refine HA.mono ?_; rintro e w' ⟨rfl, rfl⟩)
      clear HA
      go_region_with (go_at_call 32; refine (digit_any _ _ (by omega) (by omega)).mono ?_; rintro e w3 ⟨rfl, rfl⟩)
      all_goals
        generalize Oct.digit (s[k + 1].toNat : Int) = x at *
        generalize Oct.digit (s[k + 2].toNat : Int) = y at *
        by_cases hx : x < 0
        · have hr : Hid (Oct.unquote s.data.toList = none) := by show _ = _; rw [← hu.out, Oct.unquote_none hne (by rw [hq'.out, if_pos (Or.inl hx)])]; rfl
          clear hu hq'
          go_wp2
          go_ret2
          exact ⟨by rw [hr.out]; rfl, hbl.drew⟩
        by_cases hy : y < 0
        · have hr : Hid (Oct.unquote s.data.toList = none) := by show _ = _; rw [← hu.out, Oct.unquote_none hne (by rw [hq'.out, if_pos (Or.inr hy)])]; rfl
          have hx' : 0 ≤ x := by omega
          clear hu hq' hx
          go_wp2
          go_ret2
          exact ⟨by rw [hr.out]; rfl, hbl.drew⟩
        have hx' : 0 ≤ x := by omega
        have hy' : 0 ≤ y := by omega
        have dx : decide (x < 0) = false := by simp; omega
        have dy : decide (y < 0) = false := by simp; omega
        have hq2 : Hid (Oct.unq1 (s.data.toList.drop k) = if Oct.plainI (16 * x + y) = true then none else some (UInt8.ofNat (16 * x + y).toNat, 3)) := by show _ = _; rw [hq'.out, if_neg (by omega)]
        clear hx hy hq'
        cases hpl : Oct.plainI (16 * x + y) with
        | true =>
          have hr : Hid (Oct.unquote s.data.toList = none) := by show _ = _; rw [← hu.out, Oct.unquote_none hne (by rw [hq2.out, if_pos hpl])]; rfl
          have HB := fun w => refPlain_yes (16 * x + y) w hpl
          have HB' : Hid _ := HB
          clear hu hq2 hpl HB
          go_wp2_with (go_at_call 31; refine (HB'.out _).mono ?_; rintro e w3 ⟨rfl, rfl⟩)
          go_ret2
          exact ⟨by rw [hr.out]; rfl, hbl.drew⟩
        | false =>
          have HB := fun w => refPlain_no (16 * x + y) w hpl
          have HB' : Hid _ := HB
          have hc : ((UInt8.ofNat (16 * x + y).toNat).toNat : Int) = 16 * x + y := by rw [UInt8.toNat_ofNat']; omega
          have hq3 : Oct.unq1 (s.data.toList.drop k) = some (UInt8.ofNat (16 * x + y).toNat, 3) := by rw [hq2.out, if_neg (by rw [hpl]; simp)]
          have hu2 : Hid ((Oct.unquote (s.data.toList.drop (k + 3))).map ((acc ++ [UInt8.ofNat (16 * x + y).toNat]) ++ ·) = Oct.unquote s.data.toList) := by
            show _ = _
            rw [← hu.out, Oct.unquote_step hq3, Option.map_map, List.drop_drop]
            congr 1
            funext z
            simp
          have hC : Hid (((UInt8.ofNat (16 * x + y).toNat).toNat : Int) = 16 * x + y) := hc
          generalize UInt8.ofNat (16 * x + y).toNat = C at *
          have hownD : w'.drew.ownsRow w.heap.size 5 1 u4 acc.length (Lib.byteCells acc) := hown
          clear hu hq2 hq3 hpl HB hc
          go_wp2_with (first | (go_at_call 31; refine (HB'.out _).mono ?_; rintro e w3 ⟨rfl, rfl⟩) | (at_builtin; refine wpList_append_own _ rfl _ _ 40 rfl w.heap.size 5 i0 (.int .u8 0) 1 1 Tryd.underlying40 hi hz0 hz1 hz2 rfl (by decide) _ _ _ rfl (hownD.alloc _) ⟨_, 0, none⟩ 1 1 [.int .u8 (16 * x + y)] rfl rfl (news1 _ _) ?c2 ?c3 ?c4 ?c5 ?_))
          case c2 => intro u hu; simp at hu; subst hu; rfl
          case c3 => unfold maxLen; omega
          case c4 => omega
          case c5 => simp; omega
          intro v' w2 hown' hgrow _
          go_wp2
          refine ⟨⟨k + 3, acc ++ [C], by omega, by go_num, by simp; omega, hu2, ?_, below_own hbl.drew hsz hgrow hownD⟩, by simp [intOf]; omega⟩
          rw [Lib.byteCells_append, List.length_append]
          have e : Lib.byteCells [C] = [.int .u8 (16 * x + y)] := by rw [← hC.out]; rfl
          rw [e]; exact hown'
end Go.Proofs.YtakgmpebgaiinaaDoor
