/-
  Layer 9: Hello and ParseHello, the program's and the document's; the walk of GreetHellos.
-/
import Derived.Test.YtpndcbilnbihaaaGs1
import Derived.Test.YtpndcbilnbihaaaGrS
namespace Go.Proofs.Ytpndcbilnbihaaa
open Go.RowKit

namespace Gr
def shere : ByteArray := ⟨#[83, 104, 101, 114, 101, 61]⟩
/-- P9.3 -/
def hello (s : ByteArray) : ByteArray × Int := if Nam.system s.data.toList = true then (shere ++ s, 0) else (⟨#[]⟩, 11)
def phello (s : ByteArray) : ByteArray × Int := if Lib.hasPrefix s.data.toList shere.data.toList = true ∧ Nam.system (s.data.toList.drop 6) = true then (⟨(s.data.toList.drop 6).toArray⟩, 0) else (⟨#[]⟩, 3)
theorem system_small {l : List UInt8} (h : Nam.system l = true) : l.length ≤ 7 := by
  by_cases h7 : 7 < l.length
  · rw [Nam.system_long h7] at h; cases h
  · omega
theorem trim_yes {s : ByteArray} {p : List UInt8} (h : Lib.hasPrefix s.data.toList p = true) : Lib.trimPrefix s.data.toList p = s.data.toList.drop p.length := by unfold Lib.trimPrefix; rw [if_pos h]
theorem pre_raw (s p : ByteArray) : (decide (p.size ≤ s.size) && ((s.extract 0 p.size).toList == p.toList)) = Lib.hasPrefix s.data.toList p.data.toList := Lib.hasPrefix_raw s p
end Gr

set_option maxHeartbeats 400000 in
theorem hello_any (s : ByteArray) (w : World) (hs : s.size ≤ maxLen) :
    Calls Try.prog 9 #[.string s] w fun e w' => e = .returned (.tuple #[.string (Gr.hello s).1, .int .i64 (Gr.hello s).2]) ∧ w' = w := by
  have H1 : Hid (∀ W, Calls Try.prog 27 #[.string s] W fun e w' => e = .returned (.bool (Nam.system s.data.toList)) ∧ W = w') := fun W => (system_any s W hs).mono fun e w' h => ⟨h.1, h.2.symm⟩
  cases hy : Nam.system s.data.toList with
  | true =>
    have hr : Hid (Gr.hello s = (Gr.shere ++ s, 0)) := by show _ = _; unfold Gr.hello; rw [if_pos hy]
    have hz : s.size ≤ 7 := Gr.system_small hy
    rw [hy] at H1
    clear hy
    go_enter Try.func9, Try.ntmps9
    go_wp2_with (go_at_call 27; refine (H1.out _).mono ?_; rintro e w' ⟨rfl, rfl⟩)
    go_ret2
    exact ⟨ret_se (by rw [hr.out]; rfl) (by rw [hr.out]), rfl⟩
  | false =>
    have hr : Hid (Gr.hello s = (⟨#[]⟩, 11)) := by show _ = _; unfold Gr.hello; rw [if_neg (by simp [hy])]
    rw [hy] at H1
    clear hy
    go_enter Try.func9, Try.ntmps9
    go_wp2_with (go_at_call 27; refine (H1.out _).mono ?_; rintro e w' ⟨rfl, rfl⟩)
    go_ret2
    exact ⟨ret_se (by rw [hr.out]) (by rw [hr.out]), rfl⟩
set_option maxHeartbeats 400000 in
theorem refHello_any (s : ByteArray) (w : World) (hs : s.size ≤ maxLen) :
    Calls Try.prog 10 #[.string s] w fun e w' => e = .returned (.tuple #[.string (Gr.hello s).1, .int .i64 (Gr.hello s).2]) ∧ w' = w := by
  have H1 : Hid (∀ W, Calls Try.prog 28 #[.string s] W fun e w' => e = .returned (.bool (Nam.system s.data.toList)) ∧ W = w') := fun W => (refSystem_any s W hs).mono fun e w' h => ⟨h.1, h.2.symm⟩
  cases hy : Nam.system s.data.toList with
  | true =>
    have hr : Hid (Gr.hello s = (Gr.shere ++ s, 0)) := by show _ = _; unfold Gr.hello; rw [if_pos hy]
    have hz : s.size ≤ 7 := Gr.system_small hy
    rw [hy] at H1
    clear hy
    go_enter Try.func10, Try.ntmps10
    go_wp2_with (go_at_call 28; refine (H1.out _).mono ?_; rintro e w' ⟨rfl, rfl⟩)
    go_ret2
    exact ⟨ret_se (by rw [hr.out]; rfl) (by rw [hr.out]), rfl⟩
  | false =>
    have hr : Hid (Gr.hello s = (⟨#[]⟩, 11)) := by show _ = _; unfold Gr.hello; rw [if_neg (by simp [hy])]
    rw [hy] at H1
    clear hy
    go_enter Try.func10, Try.ntmps10
    go_wp2_with (go_at_call 28; refine (H1.out _).mono ?_; rintro e w' ⟨rfl, rfl⟩)
    go_ret2
    exact ⟨ret_se (by rw [hr.out]) (by rw [hr.out]), rfl⟩

set_option maxHeartbeats 400000 in
theorem phello_any (s : ByteArray) (w : World) (hs : s.size ≤ maxLen) :
    Calls Try.prog 11 #[.string s] w fun e w' => e = .returned (.tuple #[.string (Gr.phello s).1, .int .i64 (Gr.phello s).2]) ∧ w' = w := by
  have HC : Hid (∀ W, Calls Try.prog 29 #[.string s, .string ⟨#[83, 104, 101, 114, 101, 61]⟩] W fun e w' => e = .returned (.tuple #[.string ⟨(Lib.trimPrefix s.data.toList Gr.shere.data.toList).toArray⟩, .bool (Lib.hasPrefix s.data.toList Gr.shere.data.toList)]) ∧ W = w') := fun W => (Try.strings_CutPrefix s Gr.shere W).mono fun e w' h => ⟨h.1, h.2.symm⟩
  cases hp : Lib.hasPrefix s.data.toList Gr.shere.data.toList with
  | false =>
    have hr : Hid (Gr.phello s = (⟨#[]⟩, 3)) := by show _ = _; unfold Gr.phello; rw [if_neg (by simp [hp])]
    rw [hp] at HC
    generalize Lib.trimPrefix s.data.toList Gr.shere.data.toList = tl at *
    clear hp
    go_enter Try.func11, Try.ntmps11
    go_wp2_with (go_at_call 29; refine (HC.out _).mono ?_; rintro e w' ⟨rfl, rfl⟩)
    go_ret2
    exact ⟨ret_se (by rw [hr.out]) (by rw [hr.out]), rfl⟩
  | true =>
    have ht : Lib.trimPrefix s.data.toList Gr.shere.data.toList = s.data.toList.drop 6 := Gr.trim_yes hp
    rw [hp, ht] at HC
    have hz : (⟨(s.data.toList.drop 6).toArray⟩ : ByteArray).size ≤ maxLen := by
      show (s.data.toList.drop 6).toArray.size ≤ maxLen
      rw [List.size_toArray, List.length_drop, Array.length_toList]
      exact Nat.le_trans (Nat.sub_le _ _) hs
    have H1 : Hid (∀ W, Calls Try.prog 27 #[.string ⟨(s.data.toList.drop 6).toArray⟩] W fun e w' => e = .returned (.bool (Nam.system (s.data.toList.drop 6))) ∧ W = w') := fun W => (system_any ⟨(s.data.toList.drop 6).toArray⟩ W hz).mono fun e w' h => ⟨h.1, h.2.symm⟩
    cases hy : Nam.system (s.data.toList.drop 6) with
    | true =>
      have hr : Hid (Gr.phello s = (⟨(s.data.toList.drop 6).toArray⟩, 0)) := by show _ = _; unfold Gr.phello; rw [if_pos ⟨hp, hy⟩]
      rw [hy] at H1
      generalize s.data.toList.drop 6 = tl at *
      clear hp hy ht hz
      go_enter Try.func11, Try.ntmps11
      go_wp2_with (first | (go_at_call 29; refine (HC.out _).mono ?_; rintro e w' ⟨rfl, rfl⟩) | (go_at_call 27; refine (H1.out _).mono ?_; rintro e w' ⟨rfl, rfl⟩))
      go_ret2
      exact ⟨ret_se (by rw [hr.out]) (by rw [hr.out]), rfl⟩
    | false =>
      have hr : Hid (Gr.phello s = (⟨#[]⟩, 3)) := by show _ = _; unfold Gr.phello; rw [if_neg (by simp [hy])]
      rw [hy] at H1
      generalize s.data.toList.drop 6 = tl at *
      clear hp hy ht hz
      go_enter Try.func11, Try.ntmps11
      go_wp2_with (first | (go_at_call 29; refine (HC.out _).mono ?_; rintro e w' ⟨rfl, rfl⟩) | (go_at_call 27; refine (H1.out _).mono ?_; rintro e w' ⟨rfl, rfl⟩))
      go_ret2
      exact ⟨ret_se (by rw [hr.out]) (by rw [hr.out]), rfl⟩

set_option maxHeartbeats 400000 in
theorem refPhello_any (s : ByteArray) (w : World) (hs : s.size ≤ maxLen) :
    Calls Try.prog 12 #[.string s] w fun e w' => e = .returned (.tuple #[.string (Gr.phello s).1, .int .i64 (Gr.phello s).2]) ∧ w' = w := by
  have hraw := Gr.pre_raw s Gr.shere
  have hsz : Gr.shere.size = 6 := rfl
  rw [hsz] at hraw
  by_cases h6 : s.size < 6
  · have hp : Lib.hasPrefix s.data.toList Gr.shere.data.toList = false := by rw [← hraw, decide_eq_false (by omega)]; rfl
    have hr : Hid (Gr.phello s = (⟨#[]⟩, 3)) := by show _ = _; unfold Gr.phello; rw [if_neg (by simp [hp])]
    clear hraw hp hsz
    unfold maxLen at hs
    go_enter Try.func12, Try.ntmps12
    go_wp2
    go_ret2
    exact ⟨ret_se (by rw [hr.out]) (by rw [hr.out]), rfl⟩
  · have q6 : (6 : Int) ≤ (s.size : Int) := by omega
    have d6 : decide (6 ≤ s.size) = true := by simp; omega
    rw [d6, Bool.true_and] at hraw
    by_cases hp : Lib.hasPrefix s.data.toList Gr.shere.data.toList = true
    · have c1 : ((s.extract 0 6).toList == Gr.shere.toList) = true := hraw.trans hp
      have hz : (s.extract 6 s.size).size ≤ maxLen := by rw [ba_drop]; show (s.data.toList.drop 6).toArray.size ≤ maxLen; rw [List.size_toArray, List.length_drop, Array.length_toList]; exact Nat.le_trans (Nat.sub_le _ _) hs
      have hd : Hid (s.extract 6 s.size = ⟨(s.data.toList.drop 6).toArray⟩) := ba_drop s 6
      have H1 : Hid (∀ W, Calls Try.prog 28 #[.string (s.extract 6 s.size)] W fun e w' => e = .returned (.bool (Nam.system (s.data.toList.drop 6))) ∧ W = w') := fun W => by
        have := refSystem_any (s.extract 6 s.size) W hz
        rw [show (s.extract 6 s.size).data.toList = s.data.toList.drop 6 by rw [ba_drop]] at this
        exact this.mono fun e w' h => ⟨h.1, h.2.symm⟩
      have c2 : ((s.extract 0 6).toList != Gr.shere.toList) = false := by rw [bne, c1]; rfl
      have c3 : (s.extract 0 6).toList = [83, 104, 101, 114, 101, 61] := by have := eq_of_beq c1; rw [this, ByteArray.toList_eq]; rfl
      cases hy : Nam.system (s.data.toList.drop 6) with
      | true =>
        have hr : Hid (Gr.phello s = (s.extract 6 s.size, 0)) := by show _ = _; unfold Gr.phello; rw [if_pos ⟨hp, hy⟩, hd.out]
        rw [hy] at H1
        clear hp hy hraw hz c1 c2 d6 hsz
        unfold maxLen at hs
        go_enter Try.func12, Try.ntmps12
        go_wp2_with (go_at_call 28; refine (H1.out _).mono ?_; rintro e w' ⟨rfl, rfl⟩)
        go_ret2
        exact ⟨ret_se (by rw [hr.out]) (by rw [hr.out]), rfl⟩
      | false =>
        have hr : Hid (Gr.phello s = (⟨#[]⟩, 3)) := by show _ = _; unfold Gr.phello; rw [if_neg (by simp [hy])]
        rw [hy] at H1
        clear hp hy hraw hz c1 c2 d6 hsz
        unfold maxLen at hs
        go_enter Try.func12, Try.ntmps12
        go_wp2_with (go_at_call 28; refine (H1.out _).mono ?_; rintro e w' ⟨rfl, rfl⟩)
        go_ret2
        exact ⟨ret_se (by rw [hr.out]) (by rw [hr.out]), rfl⟩
    · have hpf : Lib.hasPrefix s.data.toList Gr.shere.data.toList = false := by simpa using hp
      have c1 : ((s.extract 0 6).toList == Gr.shere.toList) = false := hraw.trans hpf
      have c3 : ((s.extract 0 6).toList == [83, 104, 101, 114, 101, 61]) = false := by rw [ByteArray.toList_eq Gr.shere] at c1; exact c1
      have c4 : ((s.extract 0 6).toList != [83, 104, 101, 114, 101, 61]) = true := by rw [bne, c3]; rfl
      have hr : Hid (Gr.phello s = (⟨#[]⟩, 3)) := by show _ = _; unfold Gr.phello; rw [if_neg (by simp [hpf])]
      clear hp hpf hraw c1 d6 hsz
      unfold maxLen at hs
      go_enter Try.func12, Try.ntmps12
      go_wp2
      go_ret2
      exact ⟨ret_se (by rw [hr.out]) (by rw [hr.out]), rfl⟩
end Go.Proofs.Ytpndcbilnbihaaa
