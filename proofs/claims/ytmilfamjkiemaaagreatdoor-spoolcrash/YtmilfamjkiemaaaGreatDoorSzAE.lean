/-
  Walks of layer 3: isDigit, isGreat, isSmall, Grade, System, mayBe, isFileKind, isNoteKind, Less and the document's Grade, System, kind. Walks of layer 3: System, isFileKind, isNoteKind, Less and the document's Grade, System, kind. Walks of layer 3: kinds, Less, cut and the document's Grade, System, kind.
-/
import Derived.Test.YtmilfamjkiemaaaGreatDoorSzAD
import Derived.Test.YtmilfamjkiemaaaGreatDoorSzAB
import Derived.Deep.QuietTactic
import Derived.BigQuiet
import Derived.WalkMore
namespace Go.Proofs.YtmilfamjkiemaaaGreatDoor
open Go.RowKit

theorem isDigit_any (c : Int) (w : World) : Calls Tryz.prog 106 #[.int .i64 c] w fun e w' => e = .returned (.bool (Nam.dg c)) ∧ w' = w := by
  by_cases h0 : 48 ≤ c
  · by_cases h1 : c ≤ 57
    · have hr : Hid (Nam.dg c = true) := by show _ = _; simp [Nam.dg, h0, h1]
      go_enter Tryz.func106, Tryz.ntmps106
      go_wp2
      go_ret
      exact ⟨ret_bool hr.out.symm, rfl⟩
    · have hr : Hid (Nam.dg c = false) := by show _ = _; simp [Nam.dg, h1]
      go_enter Tryz.func106, Tryz.ntmps106
      go_wp2
      go_ret
      exact ⟨ret_bool hr.out.symm, rfl⟩
  · have hr : Hid (Nam.dg c = false) := by show _ = _; simp [Nam.dg, h0]
    go_enter Tryz.func106, Tryz.ntmps106
    go_wp2
    go_ret
    exact ⟨ret_bool hr.out.symm, rfl⟩
theorem isGreat_any (c : Int) (w : World) : Calls Tryz.prog 163 #[.int .i64 c] w fun e w' => e = .returned (.bool (Nam.gt c)) ∧ w' = w := by
  by_cases h0 : 65 ≤ c
  · by_cases h1 : c ≤ 90
    · have hr : Hid (Nam.gt c = true) := by show _ = _; simp [Nam.gt, h0, h1]
      go_enter Tryz.func163, Tryz.ntmps163
      go_wp2
      go_ret
      exact ⟨ret_bool hr.out.symm, rfl⟩
    · have hr : Hid (Nam.gt c = false) := by show _ = _; simp [Nam.gt, h1]
      go_enter Tryz.func163, Tryz.ntmps163
      go_wp2
      go_ret
      exact ⟨ret_bool hr.out.symm, rfl⟩
  · have hr : Hid (Nam.gt c = false) := by show _ = _; simp [Nam.gt, h0]
    go_enter Tryz.func163, Tryz.ntmps163
    go_wp2
    go_ret
    exact ⟨ret_bool hr.out.symm, rfl⟩
theorem isSmall_any (c : Int) (w : World) : Calls Tryz.prog 107 #[.int .i64 c] w fun e w' => e = .returned (.bool (Nam.sm c)) ∧ w' = w := by
  by_cases h0 : 97 ≤ c
  · by_cases h1 : c ≤ 122
    · have hr : Hid (Nam.sm c = true) := by show _ = _; simp [Nam.sm, h0, h1]
      go_enter Tryz.func107, Tryz.ntmps107
      go_wp2
      go_ret
      exact ⟨ret_bool hr.out.symm, rfl⟩
    · have hr : Hid (Nam.sm c = false) := by show _ = _; simp [Nam.sm, h1]
      go_enter Tryz.func107, Tryz.ntmps107
      go_wp2
      go_ret
      exact ⟨ret_bool hr.out.symm, rfl⟩
  · have hr : Hid (Nam.sm c = false) := by show _ = _; simp [Nam.sm, h0]
    go_enter Tryz.func107, Tryz.ntmps107
    go_wp2
    go_ret
    exact ⟨ret_bool hr.out.symm, rfl⟩

theorem grade_any (c : Int) (w : World) : Calls Tryz.prog 134 #[.int .i64 c] w fun e w' => e = .returned (.bool (Nam.grade c)) ∧ w' = w := by
  have H1 : Hid (∀ w : World, Calls Tryz.prog 106 #[.int .i64 c] w fun e w' => e = .returned (.bool (Nam.dg c)) ∧ w' = w) := fun w => isDigit_any c w
  have H2 : Hid (∀ w : World, Calls Tryz.prog 163 #[.int .i64 c] w fun e w' => e = .returned (.bool (Nam.gt c)) ∧ w' = w) := fun w => isGreat_any c w
  have H3 : Hid (∀ w : World, Calls Tryz.prog 107 #[.int .i64 c] w fun e w' => e = .returned (.bool (Nam.sm c)) ∧ w' = w) := fun w => isSmall_any c w
  have hr : Hid (Nam.grade c = (Nam.dg c || Nam.gt c || Nam.sm c)) := rfl
  generalize Nam.dg c = a at *
  generalize Nam.gt c = b at *
  generalize Nam.sm c = d at *
  cases a
  · cases b
    · go_enter Tryz.func134, Tryz.ntmps134
      go_wp2_with (go_at_call 106; refine (H1.out _).mono ?_; rintro e w' ⟨rfl, rfl⟩)
      go_wp2_with (go_at_call 163; refine (H2.out _).mono ?_; rintro e w' ⟨rfl, rfl⟩)
      go_wp2_with (go_at_call 107; refine (H3.out _).mono ?_; rintro e w' ⟨rfl, rfl⟩)
      go_ret
      exact ⟨ret_bool (by rw [hr.out]; rfl), rfl⟩
    · go_enter Tryz.func134, Tryz.ntmps134
      go_wp2_with (go_at_call 106; refine (H1.out _).mono ?_; rintro e w' ⟨rfl, rfl⟩)
      go_wp2_with (go_at_call 163; refine (H2.out _).mono ?_; rintro e w' ⟨rfl, rfl⟩)
      go_ret
      exact ⟨ret_bool (by rw [hr.out]; rfl), rfl⟩
  · go_enter Tryz.func134, Tryz.ntmps134
    go_wp2_with (go_at_call 106; refine (H1.out _).mono ?_; rintro e w' ⟨rfl, rfl⟩)
    go_ret
    exact ⟨ret_bool (by rw [hr.out]; rfl), rfl⟩


set_option maxHeartbeats 1000000 in
theorem mayBe_any (g n : Int) (w : World) : Calls Tryz.prog 101 #[.agg #[.int .i64 g, .int .i64 n]] w fun e w' => e = .returned (.bool (Nam.may g n)) ∧ w' = w.alloc (.cells #[.int .i64 g, .int .i64 n] 31) := by
  have H1 : Hid (∀ w : World, Calls Tryz.prog 134 #[.int .i64 g] w fun e w' => e = .returned (.bool (Nam.grade g)) ∧ w' = w) := fun w => grade_any g w
  have hr : Hid (Nam.may g n = (Nam.grade g && decide (1 ≤ n) && decide (n ≤ 99999))) := rfl
  generalize Nam.grade g = a at *
  cases a
  · go_enter Tryz.func101, Tryz.ntmps101
    go_wp2_with (go_at_call 134; refine (H1.out _).mono ?_; rintro e w' ⟨rfl, rfl⟩)
    go_ret
    exact ⟨ret_bool (by rw [hr.out]; rfl), rfl⟩
  · by_cases h0 : 1 ≤ n
    · have hr2 : Hid (Nam.may g n = decide (n ≤ 99999)) := by show _ = _; rw [hr.out]; simp [h0]
      by_cases h1 : n ≤ 99999
      all_goals
        go_enter Tryz.func101, Tryz.ntmps101
        go_wp2_with (go_at_call 134; refine (H1.out _).mono ?_; rintro e w' ⟨rfl, rfl⟩)
        go_ret
        exact ⟨ret_bool (by simp [hr2.out, h1]), rfl⟩
    · have hr2 : Hid (Nam.may g n = false) := by show _ = _; rw [hr.out]; simp [h0]
      go_enter Tryz.func101, Tryz.ntmps101
      go_wp2_with (go_at_call 134; refine (H1.out _).mono ?_; rintro e w' ⟨rfl, rfl⟩)
      go_ret
      exact ⟨ret_bool (by rw [hr2.out]), rfl⟩
end Go.Proofs.YtmilfamjkiemaaaGreatDoor

namespace Go.Proofs.YtmilfamjkiemaaaGreatDoor
open Go.RowKit
namespace Nam
theorem system_empty {l : List UInt8} (h : l.length = 0) : system l = false := by simp [system, h]
theorem system_long {l : List UInt8} (h : 7 < l.length) : system l = false := by
  have : ¬ l.length ≤ 7 := by omega
  simp [system, this]
theorem system_dig {l : List UInt8} (h : dg ((l.headD 0).toNat : Int) = true) : system l = false := by unfold system; rw [h]; simp
theorem system_not {l : List UInt8} {c : UInt8} (h : c ∈ l) (hc : okc c = false) : system l = false := by
  have : l.all okc = false := by rw [List.all_eq_false]; exact ⟨c, h, by simp [hc]⟩
  simp [system, this]
theorem system_yes {l : List UInt8} (h0 : 1 ≤ l.length) (h1 : l.length ≤ 7) (h2 : dg ((l.headD 0).toNat : Int) = false) (h3 : l.all okc = true) : system l = true := by
  simp only [system, h0, h1, h2, h3, decide_true, Bool.and_self, Bool.not_false]
theorem okc_snoc (s : ByteArray) (k : Nat) (h : k < s.size) (h1 : (s.data.toList.take k).all okc = true) (h2 : okc s[k] = true) : (s.data.toList.take (k + 1)).all okc = true := by
  rw [Oct.take_snoc s k h, List.all_append, h1]; simp [h2]
end Nam

theorem wrap_byte (c : UInt8) : wrap64 (c.toNat : Int) = (c.toNat : Int) := by
  have := c.toNat_lt; unfold wrap64; omega
theorem isDigit_byte (c : UInt8) (w : World) : Calls Tryz.prog 106 #[.int .i64 (wrap64 (c.toNat : Int))] w fun e w' => e = .returned (.bool (Nam.dg (c.toNat : Int))) ∧ w' = w := by
  rw [wrap_byte]; exact isDigit_any _ w
theorem isSmall_byte (c : UInt8) (w : World) : Calls Tryz.prog 107 #[.int .i64 (wrap64 (c.toNat : Int))] w fun e w' => e = .returned (.bool (Nam.sm (c.toNat : Int))) ∧ w' = w := by
  rw [wrap_byte]; exact isSmall_any _ w

set_option maxHeartbeats 1000000 in
theorem system_any (s : ByteArray) (w : World) (hs : s.size ≤ maxLen) :
    Calls Tryz.prog 67 #[.string s] w fun e w' => e = .returned (.bool (Nam.system s.data.toList)) ∧ w' = w := by
  unfold maxLen at hs
  have hlen := Oct.len_eq s
  by_cases h0 : s.size = 0
  · have hr : Hid (Nam.system s.data.toList = false) := Nam.system_empty (by omega)
    have hz : s = ⟨#[]⟩ := ByteArray.ext (Array.eq_empty_of_size_eq_zero h0)
    clear hlen
    subst hz
    go_enter Tryz.func67, Tryz.ntmps67
    go_wp2
    go_ret
    exact ⟨ret_bool hr.out.symm, rfl⟩
  · have hz : (s.toList == []) = false := by
      rw [beq_eq_false_iff_ne]; intro h; rw [ByteArray.toList_eq] at h; rw [h] at hlen; exact h0 hlen.symm
    by_cases h7 : 7 < s.size
    · have hr : Hid (Nam.system s.data.toList = false) := Nam.system_long (by omega)
      clear hlen
      go_enter Tryz.func67, Tryz.ntmps67
      go_wp2
      go_ret
      exact ⟨ret_bool hr.out.symm, rfl⟩
    · have hp : 0 < s.size := by omega
      have hh := Oct.headD_at s hp
      have H1 : Hid (∀ w : World, Calls Tryz.prog 106 #[.int .i64 (wrap64 (s[0].toNat : Int))] w fun e w' => e = .returned (.bool (Nam.dg (s[0].toNat : Int))) ∧ w' = w) := fun w => isDigit_byte _ w
      cases hd : Nam.dg (s[0].toNat : Int) with
      | true =>
        have hr : Hid (Nam.system s.data.toList = false) := Nam.system_dig (by rw [hh]; exact hd)
        rw [hd] at H1
        clear hlen hh hd
        go_enter Tryz.func67, Tryz.ntmps67
        go_wp2_with (go_at_call 106; refine (H1.out _).mono ?_; rintro e w' ⟨rfl, rfl⟩)
        go_ret
        exact ⟨ret_bool hr.out.symm, rfl⟩
      | false =>
        have hfin : Hid (s.data.toList.all Nam.okc = true → Nam.system s.data.toList = true) := fun h => Nam.system_yes (by omega) (by omega) (by rw [hh]; exact hd) h
        rw [hd] at H1
        clear hlen hh hd
        go_enter Tryz.func67, Tryz.ntmps67
        go_wp2_with (go_at_call 106; refine (H1.out _).mono ?_; rintro e w' ⟨rfl, rfl⟩)
        go_loop [20] (fun i => ∃ k : Nat, k ≤ s.size ∧ i = .int .i64 k ∧ Hid ((s.data.toList.take k).all Nam.okc = true)) (fun i => s.size - (intOf i).toNat)
        case atStart => exact ⟨0, Nat.zero_le _, rfl, rfl⟩
        case round =>
          obtain ⟨k, hk, rfl, hall⟩ := hrel
          by_cases hlt : k < s.size
          · have G1 : Hid (∀ w : World, Calls Tryz.prog 106 #[.int .i64 (wrap64 (s[k].toNat : Int))] w fun e w' => e = .returned (.bool (Nam.dg (s[k].toNat : Int))) ∧ w' = w) := fun w => isDigit_byte _ w
            have G2 : Hid (∀ w : World, Calls Tryz.prog 107 #[.int .i64 (wrap64 (s[k].toNat : Int))] w fun e w' => e = .returned (.bool (Nam.sm (s[k].toNat : Int))) ∧ w' = w) := fun w => isSmall_byte _ w
            have hok : Hid (Nam.okc s[k] = (Nam.dg (s[k].toNat : Int) || Nam.sm (s[k].toNat : Int))) := rfl
            have hnot : Hid (Nam.okc s[k] = false → Nam.system s.data.toList = false) := Nam.system_not (Oct.mem_at s k hlt)
            have hyes : Hid (Nam.okc s[k] = true → (s.data.toList.take (k + 1)).all Nam.okc = true) := Nam.okc_snoc s k hlt hall.out
            generalize Nam.dg (s[k].toNat : Int) = a at *
            generalize Nam.sm (s[k].toNat : Int) = b at *
            generalize Nam.okc s[k] = o at *
            cases a
            · cases b
              · have hr : Hid (Nam.system s.data.toList = false) := hnot.out hok.out
                go_wp2_with (go_at_call 106; refine (G1.out _).mono ?_; rintro e w' ⟨rfl, rfl⟩)
                go_wp2_with (go_at_call 107; refine (G2.out _).mono ?_; rintro e w' ⟨rfl, rfl⟩)
                go_ret
                exact ⟨ret_bool hr.out.symm, rfl⟩
              · have hn : Hid ((s.data.toList.take (k + 1)).all Nam.okc = true) := hyes.out hok.out
                go_wp2_with (go_at_call 106; refine (G1.out _).mono ?_; rintro e w' ⟨rfl, rfl⟩)
                go_wp2_with (go_at_call 107; refine (G2.out _).mono ?_; rintro e w' ⟨rfl, rfl⟩)
                go_round
                case rel => exact ⟨k + 1, by omega, by go_num, hn⟩
                case measure => simp [intOf]; omega
            · have hn : Hid ((s.data.toList.take (k + 1)).all Nam.okc = true) := hyes.out hok.out
              go_wp2_with (go_at_call 106; refine (G1.out _).mono ?_; rintro e w' ⟨rfl, rfl⟩)
              go_round
              case rel => exact ⟨k + 1, by omega, by go_num, hn⟩
              case measure => simp [intOf]; omega
          · have hn : Hid (Nam.system s.data.toList = true) := hfin.out (by have := hall.out; rwa [Oct.take_all s k (by omega)] at this)
            go_wp2
            go_ret
            exact ⟨ret_bool hn.out.symm, rfl⟩
end Go.Proofs.YtmilfamjkiemaaaGreatDoor

namespace Go.Proofs.YtmilfamjkiemaaaGreatDoor
open Go.RowKit

set_option maxHeartbeats 1000000 in
theorem isFileKind_any (k : Int) (w : World) : Calls Tryz.prog 66 #[.int .i64 k] w fun e w' => e = .returned (.bool (Nam.fk k)) ∧ w' = w := by
  by_cases h67 : k = 67
  · subst h67
    go_enter Tryz.func66, Tryz.ntmps66
    go_wp2
    go_ret
    exact ⟨rfl, rfl⟩
  have d67 : (k == 67) = false := by rw [beq_eq_false_iff_ne]; exact h67
  by_cases h68 : k = 68
  · subst h68
    go_enter Tryz.func66, Tryz.ntmps66
    go_wp2
    go_ret
    exact ⟨rfl, rfl⟩
  have d68 : (k == 68) = false := by rw [beq_eq_false_iff_ne]; exact h68
  by_cases h69 : k = 69
  · subst h69
    go_enter Tryz.func66, Tryz.ntmps66
    go_wp2
    go_ret
    exact ⟨rfl, rfl⟩
  have d69 : (k == 69) = false := by rw [beq_eq_false_iff_ne]; exact h69
  by_cases h70 : k = 70
  · subst h70
    go_enter Tryz.func66, Tryz.ntmps66
    go_wp2
    go_ret
    exact ⟨rfl, rfl⟩
  have d70 : (k == 70) = false := by rw [beq_eq_false_iff_ne]; exact h70
  by_cases h79 : k = 79
  · subst h79
    go_enter Tryz.func66, Tryz.ntmps66
    go_wp2
    go_ret
    exact ⟨rfl, rfl⟩
  have d79 : (k == 79) = false := by rw [beq_eq_false_iff_ne]; exact h79
  by_cases h84 : k = 84
  · subst h84
    go_enter Tryz.func66, Tryz.ntmps66
    go_wp2
    go_ret
    exact ⟨rfl, rfl⟩
  have d84 : (k == 84) = false := by rw [beq_eq_false_iff_ne]; exact h84
  by_cases h85 : k = 85
  · subst h85
    go_enter Tryz.func66, Tryz.ntmps66
    go_wp2
    go_ret
    exact ⟨rfl, rfl⟩
  have d85 : (k == 85) = false := by rw [beq_eq_false_iff_ne]; exact h85
  by_cases h88 : k = 88
  · subst h88
    go_enter Tryz.func66, Tryz.ntmps66
    go_wp2
    go_ret
    exact ⟨rfl, rfl⟩
  have d88 : (k == 88) = false := by rw [beq_eq_false_iff_ne]; exact h88
  have hr : Hid (Nam.fk k = false) := by show _ = _; simp [Nam.fk, h67, h68, h69, h70, h79, h84, h85, h88]
  clear h67 h68 h69 h70 h79 h84 h85 h88
  go_enter Tryz.func66, Tryz.ntmps66
  go_wp2
  go_ret
  exact ⟨ret_bool hr.out.symm, rfl⟩

theorem ret_ss {a b c d : ByteArray} (h : a = c) (h' : b = d) : Ending.returned (.tuple #[.string a, .string b]) = .returned (.tuple #[.string c, .string d]) := by rw [h, h']
theorem extract_take (s : ByteArray) (k : Nat) : s.extract 0 k = ⟨(s.data.toList.take k).toArray⟩ := by
  apply ByteArray.ext; rw [ByteArray.data_extract]; apply Array.ext'; simp
theorem extract_drop (s : ByteArray) (k : Nat) : s.extract k s.size = ⟨(s.data.toList.drop k).toArray⟩ := by
  apply ByteArray.ext; rw [ByteArray.data_extract]; apply Array.ext'
  rw [Array.toList_extract, List.extract_eq_take_drop]
  exact List.take_of_length_le (by rw [List.length_drop, Oct.len_eq]; exact Nat.le_refl _)
theorem below_drewN {B : Nat} {w w' : World} (h : Below B w w') (q : Nat) : Below B w (w'.drewN q) := ⟨h.1, h.2, h.3, h.4, h.5⟩
theorem below_alloc1 (w : World) (a : Obj) : Below w.heap.size w (w.alloc a) := (Below.refl _ _).alloc (Nat.le_refl _) _
theorem below_alloc2 (w : World) (a b : Obj) : Below w.heap.size w ((w.alloc a).alloc b) := (below_alloc1 w a).alloc (below_alloc1 w a).size _
namespace Nam
def less (g n g' n' : Int) : Bool := if g = g' then decide (n < n') else decide (g < g')
end Nam
namespace Nam
theorem cut_at (s : ByteArray) (k : Nat) (h : k < s.size) (h1 : (s.data.toList.take k).all np = true) (h2 : s[k] = 46) : pre s.data.toList = s.data.toList.take k ∧ post s.data.toList = s.data.toList.drop (k + 1) := by
  have e : s.data.toList = s.data.toList.take k ++ 46 :: s.data.toList.drop (k + 1) := by
    have hl : k < s.data.toList.length := by rw [Oct.len_eq]; exact h
    have hd : s.data.toList.drop k = s.data.toList[k] :: s.data.toList.drop (k + 1) := List.drop_eq_getElem_cons hl
    have hk : s.data.toList[k] = 46 := h2
    rw [hk] at hd
    rw [← hd, List.take_append_drop]
  constructor
  · conv => lhs; rw [e]
    exact pre_app h1
  · conv => lhs; rw [e]
    exact post_app h1
theorem np_snoc (s : ByteArray) (k : Nat) (h : k < s.size) (h1 : (s.data.toList.take k).all np = true) (h2 : s[k] ≠ 46) : (s.data.toList.take (k + 1)).all np = true := by
  rw [Oct.take_snoc s k h, List.all_append, h1]; simp [np, h2]
end Nam

set_option maxHeartbeats 1000000 in
theorem cut_any (s : ByteArray) (w : World) (hs : s.size ≤ maxLen) :
    Calls Tryz.prog 126 #[.string s] w fun e w' => e = .returned (.tuple #[.string ⟨(Nam.pre s.data.toList).toArray⟩, .string ⟨(Nam.post s.data.toList).toArray⟩]) ∧ Below w.heap.size w w' := by
  unfold maxLen at hs
  go_enter Tryz.func126, Tryz.ntmps126
  go_wp2
  go_step3
  go_wp2
  go_step3
  go_wp2
  go_loop [4] (fun i => ∃ k : Nat, k ≤ s.size ∧ i = .int .i64 k ∧ Hid ((s.data.toList.take k).all Nam.np = true)) (fun i => s.size - (intOf i).toNat)
  case atStart => exact ⟨0, Nat.zero_le _, rfl, rfl⟩
  case round =>
    obtain ⟨k, hk, rfl, hall⟩ := hrel
    by_cases hlt : k < s.size
    · by_cases hc : s[k] = 46
      · have hv : Hid (Nam.pre s.data.toList = s.data.toList.take k ∧ Nam.post s.data.toList = s.data.toList.drop (k + 1)) := Nam.cut_at s k hlt hall.out hc
        have hb : ((s[k].toNat : Int) == 46) = true := by rw [hc]; rfl
        have he : ((k : Int) == (s.size : Int)) = false := by rw [beq_eq_false_iff_ne]; omega
        have he' : (k == s.size) = false := by rw [beq_eq_false_iff_ne]; omega
        clear hc
        go_wp2
        go_quiet (skip)
        go_wp2
        try rw [Exit.noGoto_ret]
        go_ret2
        exact ⟨ret_ss (by rw [hv.out.1]; exact extract_take s k) (by rw [hv.out.2]; exact extract_drop s (k + 1)), below_drewN (Below.refl _ _) _⟩
      · have hn : Hid ((s.data.toList.take (k + 1)).all Nam.np = true) := Nam.np_snoc s k hlt hall.out hc
        have hb : ((s[k].toNat : Int) == 46) = false := by
          rw [beq_eq_false_iff_ne]; intro h; exact hc (UInt8.toNat_inj.1 (by show s[k].toNat = 46; omega))
        clear hc
        go_wp2
        go_round
        case rel => exact ⟨k + 1, by omega, by go_num, hn⟩
        case measure => simp [intOf]; omega
    · obtain rfl : k = s.size := by omega
      have hv : Hid ((s.data.toList).all Nam.np = true) := by have := hall.out; rwa [Oct.take_all s s.size (Nat.le_refl _)] at this
      go_wp2
      try rw [Exit.noGoto_ret]
      go_ret2
      exact ⟨ret_ss (by rw [Nam.pre_all hv.out]) (by rw [Nam.post_all hv.out]), Below.refl _ _⟩
end Go.Proofs.YtmilfamjkiemaaaGreatDoor
