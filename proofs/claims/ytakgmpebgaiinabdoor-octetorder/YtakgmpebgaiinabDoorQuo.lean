/-
  Walks of layer 1: octet.isPlain, octet.Quote.
-/
import Derived.Test.YtakgmpebgaiinabDoorFix
import Derived.Test.YtakgmpebgaiinabDoorMathQ
import Derived.Test.YtakgmpebgaiinabDoorBld
namespace Go.Proofs.YtakgmpebgaiinabDoor
open Go.RowKit

theorem isPlain_yes (x : Int) (w : World) (h : Oct.plainI x = true) : Calls Tryd.prog 13 #[.int .u8 x] w fun e w' => e = .returned (.bool true) ∧ w' = w := by
  obtain ⟨h1, h2, h3⟩ := Oct.plainI_iff.1 h
  have d : (x != 92) = true := by rw [bne_iff_ne]; exact h3
  clear h h3
  go_enter Tryd.func13, Tryd.ntmps13
  go_wp2
  go_ret
  exact ⟨rfl, rfl⟩
theorem isPlain_no (x : Int) (w : World) (h : Oct.plainI x = false) : Calls Tryd.prog 13 #[.int .u8 x] w fun e w' => e = .returned (.bool false) ∧ w' = w := by
  have h' := Oct.plainI_not.1 h
  by_cases h1 : 33 ≤ x
  · by_cases h2 : x ≤ 126
    · have d : (x != 92) = false := by rw [bne_eq_false_iff_eq]; omega
      clear h h'
      go_enter Tryd.func13, Tryd.ntmps13
      go_wp2
      go_ret
      exact ⟨rfl, rfl⟩
    · have d : decide (x ≤ 126) = false := by simp; omega
      clear h h' h2
      go_enter Tryd.func13, Tryd.ntmps13
      go_wp2
      go_ret
      exact ⟨rfl, rfl⟩
  · have d : decide (33 ≤ x) = false := by simp; omega
    clear h h' h1
    go_enter Tryd.func13, Tryd.ntmps13
    go_wp2
    go_ret
    exact ⟨rfl, rfl⟩

set_option maxHeartbeats 1000000 in
theorem quote_any (s : ByteArray) (w : World) (hs : s.size ≤ 1099511627776) :
    Calls Tryd.prog 9 #[.string s] w fun e w' => e = .returned (.string ⟨(Oct.quote s.data.toList).toArray⟩) ∧ Below w.heap.size w w' := by
  go_enter Tryd.func9, Tryd.ntmps9
  go_wp2
  go_loopw [8] (fun i wr => ∃ k : Nat, k ≤ s.size ∧ i = .int .i64 k ∧ Lib.IsBuilderF 38 5 w.heap.size w.heap.size (Lib.byteCells (Oct.quote (s.data.toList.take k))) wr ∧ Below w.heap.size w wr) (fun i _ => s.size - (intOf i).toNat)
  case atStart => exact ⟨0, Nat.zero_le _, rfl, Lib.IsBuilderF.of (Lib.fresh_isBuilder 38 5 w), (Below.refl _ w).alloc (Nat.le_refl _) _⟩
  case round =>
    obtain ⟨k, hk, rfl, hI, hbl⟩ := hrel
    have hql := Oct.quote_take_len s k
    have hbc : (Lib.byteCells (Oct.quote (s.data.toList.take k))).length ≤ 3 * s.size := by rw [Lib.byteCells_length]; exact hql
    have hsz := hbl.size
    by_cases hlt : k < s.size
    · have hsn : Hid (s.data.toList.take (k + 1) = s.data.toList.take k ++ [s[k]]) := Oct.take_snoc s k hlt
      cases hp : Oct.plainI (s[k].toNat : Int) with
      | true =>
        have HA := isPlain_yes (s[k].toNat : Int) wr hp
        have hq : Hid (Oct.quote (s.data.toList.take (k + 1)) = Oct.quote (s.data.toList.take k) ++ [s[k]]) := by show _ = _; rw [hsn.out, Oct.quote_snoc, Oct.q1_yes hp]
        clear hp
        go_wp2_with (first | (go_at_call 13; refine HA.mono ?_; rintro e w' ⟨rfl, rfl⟩) | (go_at_call 14; refine (Bld.writeByte w.heap.size w.heap.size _ _ _ hI (by omega) hsz).mono ?_))
        rintro e W1 ⟨rfl, h1, b1, k1⟩
        go_wp2
        go_roundw
        case rel => exact ⟨k + 1, by omega, by go_num, by rw [hq.out, Lib.byteCells_append]; exact Or.inr h1, hbl.trans b1⟩
        case measure => simp [intOf]; omega
      | false =>
        have HA := isPlain_no (s[k].toNat : Int) wr hp
        have hq : Hid (Oct.quote (s.data.toList.take (k + 1)) = Oct.quote (s.data.toList.take k) ++ [92] ++ [Oct.hexc (s[k].toNat / 16)] ++ [Oct.hexc (s[k].toNat % 16)]) := by show _ = _; rw [hsn.out, Oct.quote_snoc, Oct.q1_no hp]; simp
        clear hp
        go_wp2_with (first | (go_at_call 13; refine HA.mono ?_; rintro e w' ⟨rfl, rfl⟩) | (go_at_call 14; refine (Bld.writeByte w.heap.size w.heap.size _ _ _ hI (by omega) hsz).mono ?_))
        rintro e W1 ⟨rfl, h1, b1, k1⟩
        have hc := UInt8.toNat_lt s[k]
        have hsz1 := b1.size
        go_wp2_with fail
        rw [Oct.hexAt (s[k].toNat / 16)]
        refine (Bld.writeByte w.heap.size w.heap.size _ _ _ (Or.inr h1) (by simp; omega) (by omega)).mono ?_
        rintro e W2 ⟨rfl, h2, b2, k2⟩
        have hsz2 := b2.size
        go_wp2_with fail
        rw [Oct.hexAt (s[k].toNat % 16)]
        refine (Bld.writeByte w.heap.size w.heap.size _ _ _ (Or.inr h2) (by simp; omega) (by omega)).mono ?_
        rintro e W3 ⟨rfl, h3, b3, k3⟩
        go_wp2
        go_roundw
        case rel => exact ⟨k + 1, by omega, by go_num, by rw [hq.out, Lib.byteCells_append, Lib.byteCells_append, Lib.byteCells_append]; exact Or.inr h3, ((hbl.trans b1).trans b2).trans b3⟩
        case measure => simp [intOf]; omega
    · have hall : Hid (s.data.toList.take k = s.data.toList) := Oct.take_all s k (by omega)
      go_wp2_with (go_at_call 15; refine (Tryd.Builder_String_any_k w.heap.size w.heap.size _ _ hI hsz).mono ?_)
      rintro e W1 ⟨rfl, _, b1, _⟩
      go_wp2
      go_ret
      exact ⟨ret_s (by rw [hall.out]), hbl.trans b1⟩
end Go.Proofs.YtakgmpebgaiinabDoor
