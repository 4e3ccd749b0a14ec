/-
  Layer 8: the document's 'at': where a text stands in another one first.
-/
import Derived.Test.YteepfifglafjmaaDoorCh31
import Derived.Test.YteepfifglafjmaaDoorCh30
import Derived.Test.YteepfifglafjmaaDoorCh27
import Derived.Test.YteepfifglafjmaaDoorCh25
import Derived.Test.YteepfifglafjmaaDoorCh15
import Derived.Test.YteepfifglafjmaaDoorStIn
namespace Go.Proofs.YteepfifglafjmaaDoor
open Go.RowKit

theorem occ_ext (s u : ByteArray) (i : Nat) : ((s.extract i (i + u.size)).toList == u.toList) = Lib.occAt s.data.toList u.data.toList i := by
  have hl : (s.extract i (i + u.size)).data.toList = (s.data.toList.drop i).take u.size := by
    rw [ByteArray.data_extract, Array.toList_extract, List.extract_eq_take_drop, Nat.add_sub_cancel_left]
  rw [tl_eq, tl_eq, hl]
  unfold Lib.occAt
  have hu : u.data.toList.length = u.size := Array.length_toList
  rw [Bool.eq_iff_iff, beq_iff_eq, List.isPrefixOf_iff_prefix, ← hu, List.prefix_iff_eq_take]
  exact ⟨Eq.symm, Eq.symm⟩
set_option maxHeartbeats 4000000 in
theorem rat_any (s u : ByteArray) (w : World) (hs : s.size ≤ 1000000) (hu : u.size ≤ 1000000) :
    Calls Tryd.prog 44 #[.string s, .string u] w fun e w' => e = .returned (.int .i64 (Lib.index s.data.toList u.data.toList)) ∧ Below w.heap.size w w' := by
  obtain ⟨R, hR⟩ : ∃ R : Int, R = Lib.index s.data.toList u.data.toList := ⟨_, rfl⟩
  rw [← hR]
  replace hR := Rg.hid hR
  go_enter Tryd.func44, Tryd.ntmps44
  go_wp2
  go_loop [5] (fun vi => ∃ i : Nat, i ≤ s.size + 1 ∧ vi = .int .i64 i ∧ Hid (Lib.NoOcc s.data.toList u.data.toList i)) (fun vi => s.size + 1 - (intOf vi).toNat)
  case atStart => exact ⟨0, Nat.zero_le _, rfl, Lib.NoOcc.zero _ _⟩
  case round =>
    obtain ⟨i, hi, rfl, hno⟩ := hrel
    obtain ⟨E, hE⟩ : ∃ E, E = i + u.size := ⟨_, rfl⟩
    have k1 : IntKind.i64.wrap ((i : Int) + (u.size : Int)) = (E : Int) := by rw [IntKind.wrap_i64]; omega
    have k2 : wrap64 ((i : Int) + (u.size : Int)) = (E : Int) := by unfold wrap64; omega
    by_cases h : E ≤ s.size
    · have d1 : decide ((E : Int) ≤ (s.size : Int)) = true := by simp only [decide_eq_true_eq]; omega
      have hx := occ_ext s u i
      rw [← hE] at hx
      have a1 : (0 : Int) ≤ (i : Int) := by omega
      have a2 : (i : Int) ≤ (E : Int) := by omega
      have a3 : (E : Int) ≤ (s.size : Int) := by omega
      by_cases ho : Lib.occAt s.data.toList u.data.toList i = true
      · have hv := Lib.index_first (show i ≤ s.data.toList.length by rw [Array.length_toList]; show i ≤ s.size; omega) ho hno.out
        rw [ho] at hx
        clear hE
        go_wp2
        go_ret
        exact ⟨by rw [hR.out, hv]; rfl, Below.refl _ _⟩
      · replace ho : Lib.occAt s.data.toList u.data.toList i = false := by simpa using ho
        rw [ho] at hx
        have hno2 : Hid (Lib.NoOcc s.data.toList u.data.toList (i + 1)) := by
          intro j hj
          rcases Nat.lt_or_ge j i with h' | h'
          · exact hno.out j h'
          · rw [show j = i by omega]; exact ho
        clear hno hE
        go_wp2
        go_round
        case rel => exact ⟨i + 1, by omega, by go_num, hno2⟩
        case measure => simp [intOf]; omega
    · have d1 : decide ((E : Int) ≤ (s.size : Int)) = false := by simp only [decide_eq_false_iff_not]; omega
      have hv : Lib.index s.data.toList u.data.toList = -1 := by
        rcases Lib.index_spec s.data.toList u.data.toList with ⟨e, _⟩ | ⟨j, e, hj, ho, hn⟩
        · exact e
        · exfalso
          have hr := Lib.index_room s.data.toList u.data.toList (by omega)
          rw [e, Array.length_toList, Array.length_toList] at hr
          have : j < i := by
            have h1 : u.data.size = u.size := rfl
            have h2 : s.data.size = s.size := rfl
            omega
          rw [hno.out j this] at ho
          cases ho
      clear hE
      go_wp2
      go_ret
      exact ⟨by rw [hR.out, hv]; rfl, Below.refl _ _⟩
end Go.Proofs.YteepfifglafjmaaDoor
