/-
  Walks of layer 3: the document's System and Id, ofSystem, Note, File.
-/
import Derived.Test.YtkenkbhafgjlhaaDoorNam4
namespace Go.Proofs.YtkenkbhafgjlhaaDoor
open Go.RowKit

namespace Nam
theorem okc_dg {c : UInt8} (h0 : 48 ≤ (c.toNat : Int)) (h1 : (c.toNat : Int) ≤ 57) : okc c = true := by simp [okc, dg, h0, h1]
theorem okc_sm {c : UInt8} (h0 : 97 ≤ (c.toNat : Int)) (h1 : (c.toNat : Int) ≤ 122) : okc c = true := by simp [okc, sm, h0, h1]
theorem dg_sm {c : UInt8} (h0 : 97 ≤ (c.toNat : Int)) : dg (c.toNat : Int) = false := by
  have : ¬ (c.toNat : Int) ≤ 57 := by omega
  unfold dg; rw [decide_eq_false this, Bool.and_false]
theorem okc_bad {c : UInt8} (h : (c.toNat : Int) < 48 ∨ (57 < (c.toNat : Int) ∧ (c.toNat : Int) < 97) ∨ 122 < (c.toNat : Int)) : okc c = false := by
  cases e : okc c with
  | false => rfl
  | true => simp [okc, dg, sm] at e; omega
theorem system_head {s : ByteArray} (hp : 0 < s.size) (h : (s[0].toNat : Int) < 97 ∨ 122 < (s[0].toNat : Int)) : system s.data.toList = false := by
  by_cases hd : dg (s[0].toNat : Int) = true
  · exact system_dig (by rw [Oct.headD_at s hp]; exact hd)
  · refine system_not (Oct.mem_at s 0 hp) ?_
    apply okc_bad
    simp [dg] at hd
    omega
end Nam

set_option maxHeartbeats 2000000 in
theorem refSystem_any (s : ByteArray) (w : World) (hs : s.size ≤ maxLen) :
    Calls Tryd.prog 12 #[.string s] w fun e w' => e = .returned (.bool (Nam.system s.data.toList)) ∧ w' = w := by
  unfold maxLen at hs
  have hlen := Oct.len_eq s
  by_cases h0 : s.size < 1
  · have hr : Hid (Nam.system s.data.toList = false) := Nam.system_empty (by omega)
    clear hlen
    go_enter Tryd.func12, Tryd.ntmps12
    go_wp2
    go_ret
    exact ⟨ret_bool hr.out.symm, rfl⟩
  · by_cases h7 : 7 < s.size
    · have hr : Hid (Nam.system s.data.toList = false) := Nam.system_long (by omega)
      clear hlen
      go_enter Tryd.func12, Tryd.ntmps12
      go_wp2
      go_ret
      exact ⟨ret_bool hr.out.symm, rfl⟩
    · have hp : 0 < s.size := by omega
      have hh := Oct.headD_at s hp
      have hfin : Hid (s.data.toList.all Nam.okc = true → Nam.dg (s[0].toNat : Int) = false → Nam.system s.data.toList = true) := fun h hd => Nam.system_yes (by omega) (by omega) (by rw [hh]; exact hd) h
      clear hlen hh
      go_enter Tryd.func12, Tryd.ntmps12
      go_wp2
      go_loop [14] (fun i => ∃ k : Nat, k ≤ s.size ∧ i = .int .i64 k ∧ Hid ((s.data.toList.take k).all Nam.okc = true) ∧ Hid (0 < k → Nam.dg (s[0].toNat : Int) = false)) (fun i => s.size - (intOf i).toNat)
      case atStart => exact ⟨0, Nat.zero_le _, rfl, rfl, fun h => absurd h (by decide)⟩
      case round =>
        obtain ⟨k, hk, rfl, hall, hd⟩ := hrel
        by_cases hlt : k < s.size
        · have hbd := s[k].toNat_lt
          by_cases hk0 : k = 0
          · subst hk0
            by_cases h97 : (s[0].toNat : Int) < 97
            · have hr : Hid (Nam.system s.data.toList = false) := Nam.system_head hp (Or.inl h97)
              go_wp2
              go_ret
              exact ⟨ret_bool hr.out.symm, rfl⟩
            · by_cases h122 : 122 < (s[0].toNat : Int)
              · have hr : Hid (Nam.system s.data.toList = false) := Nam.system_head hp (Or.inr h122)
                go_wp2
                go_ret
                exact ⟨ret_bool hr.out.symm, rfl⟩
              · have hn : Hid ((s.data.toList.take (0 + 1)).all Nam.okc = true) := Nam.okc_snoc s 0 hlt hall.out (Nam.okc_sm (by omega) (by omega))
                have hd' : Hid (0 < 0 + 1 → Nam.dg (s[0].toNat : Int) = false) := fun _ => Nam.dg_sm (by omega)
                clear hbd
                go_wp2
                go_round
                case rel => exact ⟨1, by omega, by go_num, hn, hd'⟩
                case measure => simp [intOf]; omega
          · have hd0 : Hid (Nam.dg (s[0].toNat : Int) = false) := hd.out (by omega)
            have k0 : ((k : Int) == 0) = false := by rw [beq_eq_false_iff_ne]; omega
            have k0' : (k == 0) = false := by rw [beq_eq_false_iff_ne]; omega
            clear hk0 hd
            by_cases h97 : (s[k].toNat : Int) < 97
            · by_cases h48 : (s[k].toNat : Int) < 48
              · have hr : Hid (Nam.system s.data.toList = false) := Nam.system_not (Oct.mem_at s k hlt) (Nam.okc_bad (Or.inl h48))
                go_wp2
                go_ret
                exact ⟨ret_bool hr.out.symm, rfl⟩
              · by_cases h57 : 57 < (s[k].toNat : Int)
                · have hr : Hid (Nam.system s.data.toList = false) := Nam.system_not (Oct.mem_at s k hlt) (Nam.okc_bad (Or.inr (Or.inl ⟨h57, h97⟩)))
                  go_wp2
                  go_ret
                  exact ⟨ret_bool hr.out.symm, rfl⟩
                · have hx : Nam.okc s[k] = true := Nam.okc_dg (by omega) (by omega)
                  have hn : Hid ((s.data.toList.take (k + 1)).all Nam.okc = true) := Nam.okc_snoc s k hlt hall.out hx
                  have hd' : Hid (0 < k + 1 → Nam.dg (s[0].toNat : Int) = false) := fun _ => hd0.out
                  clear hbd hx
                  go_wp2
                  go_round
                  case rel => exact ⟨k + 1, by omega, by go_num, hn, hd'⟩
                  case measure => simp [intOf]; omega
            · by_cases h122 : 122 < (s[k].toNat : Int)
              · have hr : Hid (Nam.system s.data.toList = false) := Nam.system_not (Oct.mem_at s k hlt) (Nam.okc_bad (Or.inr (Or.inr h122)))
                have h48 : ¬ (s[k].toNat : Int) < 48 := by omega
                have h57 : 57 < (s[k].toNat : Int) := by omega
                go_wp2
                go_ret
                exact ⟨ret_bool hr.out.symm, rfl⟩
              · have hx : Nam.okc s[k] = true := Nam.okc_sm (by omega) (by omega)
                have hn : Hid ((s.data.toList.take (k + 1)).all Nam.okc = true) := Nam.okc_snoc s k hlt hall.out hx
                have hd' : Hid (0 < k + 1 → Nam.dg (s[0].toNat : Int) = false) := fun _ => hd0.out
                clear hbd hx
                go_wp2
                go_round
                case rel => exact ⟨k + 1, by omega, by go_num, hn, hd'⟩
                case measure => simp [intOf]; omega
        · have hn : Hid (Nam.system s.data.toList = true) := hfin.out (by have := hall.out; rwa [Oct.take_all s k (by omega)] at this) (hd.out (by omega))
          go_wp2
          go_ret
          exact ⟨ret_bool hn.out.symm, rfl⟩

set_option maxHeartbeats 1000000 in
theorem refId_no (g n : Int) (w : World) (hm : Nam.may g n = false) :
    Calls Tryd.prog 16 #[.agg #[.int .i64 g, .int .i64 n]] w fun e w' => e = .returned (.tuple #[.string ⟨#[]⟩, .int .i64 1]) ∧ Below w.heap.size w w' := by
  have HG : Hid (∀ w : World, Calls Tryd.prog 14 #[.int .i64 g] w fun e w' => e = .returned (.bool (Nam.grade g)) ∧ w' = w) := fun w => refGrade_any g w
  have b0 := below_alloc1 w (.cells #[.int .i64 g, .int .i64 n] 28)
  cases hg : Nam.grade g with
  | false =>
    rw [hg] at HG
    clear hm hg
    go_enter Tryd.func16, Tryd.ntmps16
    go_wp2_with (go_at_call 14; refine (HG.out _).mono ?_; rintro e w1 ⟨rfl, rfl⟩)
    go_ret2
    exact ⟨rfl, b0⟩
  | true =>
    rw [hg] at HG
    by_cases h1 : n < 1
    · clear hm hg
      go_enter Tryd.func16, Tryd.ntmps16
      go_wp2_with (go_at_call 14; refine (HG.out _).mono ?_; rintro e w1 ⟨rfl, rfl⟩)
      go_ret2
      exact ⟨rfl, b0⟩
    · have h2 : 99999 < n := by
        rcases Int.lt_or_le 99999 n with h | h
        · exact h
        · rw [Nam.may_iff.2 ⟨hg, by omega, h⟩] at hm; cases hm
      clear hm hg
      go_enter Tryd.func16, Tryd.ntmps16
      go_wp2_with (go_at_call 14; refine (HG.out _).mono ?_; rintro e w1 ⟨rfl, rfl⟩)
      go_ret2
      exact ⟨rfl, b0⟩
theorem refId_any (g n : Int) (w : World) :
    Calls Tryd.prog 16 #[.agg #[.int .i64 g, .int .i64 n]] w fun e w' => e = .returned (.tuple #[.string ⟨(Nam.id g n).1.toArray⟩, .int .i64 (Nam.id g n).2]) ∧ Below w.heap.size w w' := by
  cases hm : Nam.may g n with
  | true => have := refId_yes g n w hm; unfold Nam.id; rw [if_pos hm]; exact this
  | false => have := refId_no g n w hm; unfold Nam.id; rw [if_neg (by simp [hm])]; exact this

theorem enc_small {g : Int} (h0 : 0 ≤ g) (h1 : g < 128) : Utf8.encode g = ⟨#[Nam.byteOf g]⟩ := by
  have hv : Utf8.valid g = true := by simp [Utf8.valid]; omega
  have hc : g.toNat < 128 := by omega
  unfold Utf8.encode
  simp only [hv, if_true, hc]
  rfl
theorem ba_list (s : ByteArray) : s = ⟨s.data.toList.toArray⟩ := rfl
theorem sysT_ba (k : Int) (s : ByteArray) : (⟨#[Nam.byteOf k]⟩ ++ ⟨#[46]⟩ ++ s : ByteArray) = ⟨(Nam.sysT k s.data.toList).toArray⟩ := by
  exact (congrArg (· ++ s) (ba_app [Nam.byteOf k] [46])).trans (ba_app _ s.data.toList)
set_option maxHeartbeats 1000000 in
theorem ofSystem_any (k : Int) (s : ByteArray) (w : World) (h0 : 0 ≤ k) (h1 : k < 128) (hs : s.size ≤ 7) :
    Calls Tryd.prog 35 #[.int .i64 k, .string s] w fun e w' => e = .returned (.string ⟨(Nam.sysT k s.data.toList).toArray⟩) ∧ w' = w := by
  have hw : IntKind.i32.wrap k = k := by rw [IntKind.wrap_i32]; omega
  have henc := enc_small h0 h1
  go_enter Tryd.func35, Tryd.ntmps35
  go_wp2
  go_ret
  exact ⟨ret_s (sysT_ba k s), rfl⟩

set_option maxHeartbeats 1000000 in
theorem note_any (k : Int) (s : ByteArray) (w : World) (hs : s.size ≤ maxLen) :
    Calls Tryd.prog 21 #[.int .i64 k, .string s] w fun e w' => e = .returned (.tuple #[.string ⟨(Nam.note k s.data.toList).1.toArray⟩, .int .i64 (Nam.note k s.data.toList).2]) ∧ w' = w := by
  have H1 : Hid (∀ w : World, Calls Tryd.prog 37 #[.int .i64 k] w fun e w' => e = .returned (.bool (Nam.nk k)) ∧ w' = w) := fun w => isNoteKind_any k w
  have H2 : Hid (∀ w : World, Calls Tryd.prog 11 #[.string s] w fun e w' => e = .returned (.bool (Nam.system s.data.toList)) ∧ w' = w) := fun w => system_any s w hs
  have hlen := Oct.len_eq s
  cases hk : Nam.nk k with
  | false =>
    have hr : Hid (Nam.note k s.data.toList = ([], 1)) := by show _ = _; unfold Nam.note; rw [if_pos hk]
    rw [hk] at H1
    clear hk hlen H2
    go_enter Tryd.func21, Tryd.ntmps21
    go_wp2_with (go_at_call 37; refine (H1.out _).mono ?_; rintro e w1 ⟨rfl, rfl⟩)
    go_ret2
    exact ⟨ret_si (by rw [hr.out]) (by rw [hr.out]), rfl⟩
  | true =>
    obtain ⟨k0, k1⟩ := Nam.nk_bd hk
    cases hy : Nam.system s.data.toList with
    | false =>
      have hr : Hid (Nam.note k s.data.toList = ([], 11)) := by show _ = _; unfold Nam.note; rw [if_neg (by simp [hk]), if_pos hy]
      rw [hk] at H1
      rw [hy] at H2
      clear hk hy hlen
      go_enter Tryd.func21, Tryd.ntmps21
      go_wp2_with (go_at_call 37; refine (H1.out _).mono ?_; rintro e w1 ⟨rfl, rfl⟩)
      go_wp2_with (go_at_call 11; refine (H2.out _).mono ?_; rintro e w1 ⟨rfl, rfl⟩)
      go_ret2
      exact ⟨ret_si (by rw [hr.out]) (by rw [hr.out]), rfl⟩
    | true =>
      have hr : Hid (Nam.note k s.data.toList = (Nam.sysT k s.data.toList, 0)) := by show _ = _; unfold Nam.note; rw [if_neg (by simp [hk]), if_neg (by simp [hy])]
      have h7 : s.size ≤ 7 := by have := (Nam.system_len hy).2; omega
      have H3 : Hid (∀ w : World, Calls Tryd.prog 35 #[.int .i64 k, .string s] w fun e w' => e = .returned (.string ⟨(Nam.sysT k s.data.toList).toArray⟩) ∧ w' = w) := fun w => ofSystem_any k s w (by omega) (by omega) h7
      rw [hk] at H1
      rw [hy] at H2
      clear hk hy hlen
      go_enter Tryd.func21, Tryd.ntmps21
      go_wp2_with (go_at_call 37; refine (H1.out _).mono ?_; rintro e w1 ⟨rfl, rfl⟩)
      go_wp2_with (go_at_call 11; refine (H2.out _).mono ?_; rintro e w1 ⟨rfl, rfl⟩)
      go_wp2_with (go_at_call 35; refine (H3.out _).mono ?_; rintro e w1 ⟨rfl, rfl⟩)
      go_ret2
      exact ⟨ret_si (by rw [hr.out]) (by rw [hr.out]), rfl⟩
end Go.Proofs.YtkenkbhafgjlhaaDoor
