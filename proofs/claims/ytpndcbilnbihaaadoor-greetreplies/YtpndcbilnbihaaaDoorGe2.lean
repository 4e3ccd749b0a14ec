/-
  Layer 9: ParseReply, the program's and the document's; the walk of GreetReplies.
-/
import Derived.Test.YtpndcbilnbihaaaDoorGe1
namespace Go.Proofs.YtpndcbilnbihaaaDoor
open Go.RowKit

theorem ret_iii {a b c d e f : Int} (h : a = d) (h2 : b = e) (h3 : c = f) : Ending.returned (.tuple #[.int .i64 a, .int .i64 b, .int .i64 c]) = .returned (.tuple #[.int .i64 d, .int .i64 e, .int .i64 f]) := by rw [h, h2, h3]
theorem lit_false {s : ByteArray} {l : List UInt8} (h : ¬ s = ⟨l.toArray⟩) : (s.toList == l) = false := by
  rw [beq_eq_false_iff_ne]; intro e; apply h; rw [ByteArray.toList_eq] at e; apply ByteArray.ext; apply Array.toList_inj.1; simpa using e
theorem trim_size (s : ByteArray) (p : List UInt8) (hs : s.size ≤ maxLen) : (⟨(Lib.trimPrefix s.data.toList p).toArray⟩ : ByteArray).size ≤ maxLen := by
  show (Lib.trimPrefix s.data.toList p).toArray.size ≤ maxLen
  rw [List.size_toArray]
  unfold Lib.trimPrefix
  split
  · rw [List.length_drop, Array.length_toList]; exact Nat.le_trans (Nat.sub_le _ _) hs
  · rw [Array.length_toList]; exact hs
namespace Gr
def preply (s : ByteArray) : Int × Int × Int :=
  if s = ⟨#[82, 79, 75]⟩ then (0, 0, 0) else if s = ⟨#[82, 76, 67, 75]⟩ then (10, 0, 0) else if s = ⟨#[82, 76, 79, 71, 73, 78]⟩ then (12, 0, 0)
  else if Lib.hasPrefix s.data.toList [82, 66, 65, 68, 83, 69, 81, 32] = true ∧ (Oct.number (s.data.toList.drop 8)).2 = 0 then (13, ((Oct.number (s.data.toList.drop 8)).1 : Int), 0) else (0, 0, 3)
end Gr

set_option maxHeartbeats 1000000 in
theorem preply_any (s : ByteArray) (w : World) (hs : s.size ≤ maxLen) :
    Calls Tryd.prog 13 #[.string s] w fun e w' => e = .returned (.tuple #[.int .i64 (Gr.preply s).1, .int .i64 (Gr.preply s).2.1, .int .i64 (Gr.preply s).2.2]) ∧ w' = w := by
  by_cases k0 : s = ⟨#[82, 79, 75]⟩
  · subst k0
    have hr : Hid (Gr.preply ⟨#[82, 79, 75]⟩ = (0, 0, 0)) := by show _ = _; unfold Gr.preply; rw [if_pos rfl]
    go_enter Tryd.func13, Tryd.ntmps13
    go_wp2
    go_ret3
    exact ⟨ret_iii (by rw [hr.out]) (by rw [hr.out]) (by rw [hr.out]), rfl⟩
  · have q0 : (s.toList == [82, 79, 75]) = false := lit_false k0
    by_cases k1 : s = ⟨#[82, 76, 67, 75]⟩
    · subst k1
      have hr : Hid (Gr.preply ⟨#[82, 76, 67, 75]⟩ = (10, 0, 0)) := by show _ = _; unfold Gr.preply; rw [if_neg (by decide), if_pos rfl]
      go_enter Tryd.func13, Tryd.ntmps13
      go_wp2
      go_ret3
      exact ⟨ret_iii (by rw [hr.out]) (by rw [hr.out]) (by rw [hr.out]), rfl⟩
    · have q1 : (s.toList == [82, 76, 67, 75]) = false := lit_false k1
      by_cases k2 : s = ⟨#[82, 76, 79, 71, 73, 78]⟩
      · subst k2
        have hr : Hid (Gr.preply ⟨#[82, 76, 79, 71, 73, 78]⟩ = (12, 0, 0)) := by show _ = _; unfold Gr.preply; rw [if_neg (by decide), if_neg (by decide), if_pos rfl]
        go_enter Tryd.func13, Tryd.ntmps13
        go_wp2
        go_ret3
        exact ⟨ret_iii (by rw [hr.out]) (by rw [hr.out]) (by rw [hr.out]), rfl⟩
      · have q2 : (s.toList == [82, 76, 79, 71, 73, 78]) = false := lit_false k2
        have hpr : Hid (Gr.preply s = if Lib.hasPrefix s.data.toList [82, 66, 65, 68, 83, 69, 81, 32] = true ∧ (Oct.number (s.data.toList.drop 8)).2 = 0 then (13, ((Oct.number (s.data.toList.drop 8)).1 : Int), 0) else (0, 0, 3)) := by show _ = _; unfold Gr.preply; rw [if_neg k0, if_neg k1, if_neg k2]
        clear k0 k1 k2
        have HC : Hid (∀ W, Calls Tryd.prog 25 #[.string s, .string ⟨#[82, 66, 65, 68, 83, 69, 81, 32]⟩] W fun e w' => e = .returned (.tuple #[.string ⟨(Lib.trimPrefix s.data.toList [82, 66, 65, 68, 83, 69, 81, 32]).toArray⟩, .bool (Lib.hasPrefix s.data.toList [82, 66, 65, 68, 83, 69, 81, 32])]) ∧ W = w') := fun W => (Tryd.strings_CutPrefix s ⟨#[82, 66, 65, 68, 83, 69, 81, 32]⟩ W).mono fun e w' h => ⟨h.1, h.2.symm⟩
        have hz : (⟨(Lib.trimPrefix s.data.toList [82, 66, 65, 68, 83, 69, 81, 32]).toArray⟩ : ByteArray).size ≤ maxLen := trim_size s _ hs
        have HN : Hid (∀ W, Calls Tryd.prog 27 #[.string ⟨(Lib.trimPrefix s.data.toList [82, 66, 65, 68, 83, 69, 81, 32]).toArray⟩] W fun e w' => e = .returned (.tuple #[.int .i64 (Oct.number (Lib.trimPrefix s.data.toList [82, 66, 65, 68, 83, 69, 81, 32])).1, .int .i64 (Oct.number (Lib.trimPrefix s.data.toList [82, 66, 65, 68, 83, 69, 81, 32])).2]) ∧ W = w') := fun W => (number_any ⟨(Lib.trimPrefix s.data.toList [82, 66, 65, 68, 83, 69, 81, 32]).toArray⟩ W hz).mono fun e w' h => ⟨h.1, h.2.symm⟩
        clear hz
        cases hp : Lib.hasPrefix s.data.toList [82, 66, 65, 68, 83, 69, 81, 32] with
        | false =>
          have hr : Hid (Gr.preply s = (0, 0, 3)) := by show _ = _; rw [hpr.out, if_neg (by simp [hp])]
          rw [hp] at HC
          generalize Lib.trimPrefix s.data.toList [82, 66, 65, 68, 83, 69, 81, 32] = tl at *
          generalize (Oct.number tl).1 = m at *
          generalize (Oct.number tl).2 = q at *
          clear hp hpr
          go_enter Tryd.func13, Tryd.ntmps13
          go_wp2_with (first | (go_at_call 25; refine (HC.out _).mono ?_; rintro e w' ⟨rfl, rfl⟩) | (go_at_call 27; refine (HN.out _).mono ?_; rintro e w' ⟨rfl, rfl⟩))
          go_ret3
          exact ⟨ret_iii (by rw [hr.out]) (by rw [hr.out]) (by rw [hr.out]), rfl⟩
        | true =>
          have ht : Lib.trimPrefix s.data.toList [82, 66, 65, 68, 83, 69, 81, 32] = s.data.toList.drop 8 := by unfold Lib.trimPrefix; rw [if_pos hp]; rfl
          rw [hp, ht] at HC
          rw [ht] at HN
          rw [hp] at hpr
          generalize s.data.toList.drop 8 = tl at *
          generalize (Oct.number tl).1 = m at *
          generalize (Oct.number tl).2 = q at *
          clear hp ht
          by_cases hq : q = 0
          · subst hq
            have hr : Hid (Gr.preply s = (13, (m : Int), 0)) := by show _ = _; rw [hpr.out, if_pos ⟨rfl, rfl⟩]
            clear hpr
            go_enter Tryd.func13, Tryd.ntmps13
            go_wp2_with (first | (go_at_call 25; refine (HC.out _).mono ?_; rintro e w' ⟨rfl, rfl⟩) | (go_at_call 27; refine (HN.out _).mono ?_; rintro e w' ⟨rfl, rfl⟩))
            go_ret3
            exact ⟨ret_iii (by rw [hr.out]) (by rw [hr.out]) (by rw [hr.out]), rfl⟩
          · have hr : Hid (Gr.preply s = (0, 0, 3)) := by show _ = _; rw [hpr.out, if_neg (fun h => hq h.2)]
            have c0 : ((q : Int) != 0) = true := by rw [bne_iff_ne]; omega
            have c1 : (q != 0) = true := by rw [bne_iff_ne]; exact hq
            clear hpr hq
            go_enter Tryd.func13, Tryd.ntmps13
            go_wp2_with (first | (go_at_call 25; refine (HC.out _).mono ?_; rintro e w' ⟨rfl, rfl⟩) | (go_at_call 27; refine (HN.out _).mono ?_; rintro e w' ⟨rfl, rfl⟩))
            go_ret3
            exact ⟨ret_iii (by rw [hr.out]) (by rw [hr.out]) (by rw [hr.out]), rfl⟩

set_option maxHeartbeats 1000000 in
theorem refPreply_any (s : ByteArray) (w : World) (hs : s.size ≤ maxLen) :
    Calls Tryd.prog 14 #[.string s] w fun e w' => e = .returned (.tuple #[.int .i64 (Gr.preply s).1, .int .i64 (Gr.preply s).2.1, .int .i64 (Gr.preply s).2.2]) ∧ w' = w := by
  by_cases k0 : s = ⟨#[82, 79, 75]⟩
  · subst k0
    have hr : Hid (Gr.preply ⟨#[82, 79, 75]⟩ = (0, 0, 0)) := by show _ = _; unfold Gr.preply; rw [if_pos rfl]
    go_enter Tryd.func14, Tryd.ntmps14
    go_wp2
    go_ret3
    exact ⟨ret_iii (by rw [hr.out]) (by rw [hr.out]) (by rw [hr.out]), rfl⟩
  · have q0 : (s.toList == [82, 79, 75]) = false := lit_false k0
    by_cases k1 : s = ⟨#[82, 76, 67, 75]⟩
    · subst k1
      have hr : Hid (Gr.preply ⟨#[82, 76, 67, 75]⟩ = (10, 0, 0)) := by show _ = _; unfold Gr.preply; rw [if_neg (by decide), if_pos rfl]
      go_enter Tryd.func14, Tryd.ntmps14
      go_wp2
      go_ret3
      exact ⟨ret_iii (by rw [hr.out]) (by rw [hr.out]) (by rw [hr.out]), rfl⟩
    · have q1 : (s.toList == [82, 76, 67, 75]) = false := lit_false k1
      by_cases k2 : s = ⟨#[82, 76, 79, 71, 73, 78]⟩
      · subst k2
        have hr : Hid (Gr.preply ⟨#[82, 76, 79, 71, 73, 78]⟩ = (12, 0, 0)) := by show _ = _; unfold Gr.preply; rw [if_neg (by decide), if_neg (by decide), if_pos rfl]
        go_enter Tryd.func14, Tryd.ntmps14
        go_wp2
        go_ret3
        exact ⟨ret_iii (by rw [hr.out]) (by rw [hr.out]) (by rw [hr.out]), rfl⟩
      · have q2 : (s.toList == [82, 76, 79, 71, 73, 78]) = false := lit_false k2
        have hpr : Hid (Gr.preply s = if Lib.hasPrefix s.data.toList [82, 66, 65, 68, 83, 69, 81, 32] = true ∧ (Oct.number (s.data.toList.drop 8)).2 = 0 then (13, ((Oct.number (s.data.toList.drop 8)).1 : Int), 0) else (0, 0, 3)) := by show _ = _; unfold Gr.preply; rw [if_neg k0, if_neg k1, if_neg k2]
        clear k0 k1 k2
        have hraw := Lib.hasPrefix_raw s ⟨#[82, 66, 65, 68, 83, 69, 81, 32]⟩
        have hsz : (⟨#[82, 66, 65, 68, 83, 69, 81, 32]⟩ : ByteArray).size = 8 := rfl
        rw [hsz] at hraw
        have hdl : (⟨#[82, 66, 65, 68, 83, 69, 81, 32]⟩ : ByteArray).data.toList = [82, 66, 65, 68, 83, 69, 81, 32] := rfl
        rw [hdl] at hraw
        by_cases h8 : s.size < 8
        · have hp : Lib.hasPrefix s.data.toList [82, 66, 65, 68, 83, 69, 81, 32] = false := by rw [← hraw, decide_eq_false (by omega)]; rfl
          have hr : Hid (Gr.preply s = (0, 0, 3)) := by show _ = _; rw [hpr.out, if_neg (by simp [hp])]
          clear hraw hp hsz hdl hpr
          unfold maxLen at hs
          go_enter Tryd.func14, Tryd.ntmps14
          go_wp2
          go_ret3
          exact ⟨ret_iii (by rw [hr.out]) (by rw [hr.out]) (by rw [hr.out]), rfl⟩
        · have q8 : (8 : Int) ≤ (s.size : Int) := by omega
          have d8 : decide (8 ≤ s.size) = true := by simp; omega
          rw [d8, Bool.true_and, ByteArray.toList_eq ⟨#[82, 66, 65, 68, 83, 69, 81, 32]⟩, hdl] at hraw
          cases hp : Lib.hasPrefix s.data.toList [82, 66, 65, 68, 83, 69, 81, 32] with
          | false =>
            have c3 : ((s.extract 0 8).toList == [82, 66, 65, 68, 83, 69, 81, 32]) = false := hraw.trans hp
            have c4 : ((s.extract 0 8).toList != [82, 66, 65, 68, 83, 69, 81, 32]) = true := by rw [bne, c3]; rfl
            have hr : Hid (Gr.preply s = (0, 0, 3)) := by show _ = _; rw [hpr.out, if_neg (by simp [hp])]
            clear hp hraw d8 hsz hdl hpr
            unfold maxLen at hs
            go_enter Tryd.func14, Tryd.ntmps14
            go_wp2
            go_ret3
            exact ⟨ret_iii (by rw [hr.out]) (by rw [hr.out]) (by rw [hr.out]), rfl⟩
          | true =>
            have c3 : (s.extract 0 8).toList = [82, 66, 65, 68, 83, 69, 81, 32] := eq_of_beq (hraw.trans hp)
            have hz : (s.extract 8 s.size).size ≤ maxLen := by rw [ba_drop]; show (s.data.toList.drop 8).toArray.size ≤ maxLen; rw [List.size_toArray, List.length_drop, Array.length_toList]; exact Nat.le_trans (Nat.sub_le _ _) hs
            have HN : Hid (∀ W, Calls Tryd.prog 28 #[.string (s.extract 8 s.size)] W fun e w' => e = .returned (.tuple #[.int .i64 (Oct.number (s.data.toList.drop 8)).1, .int .i64 (Oct.number (s.data.toList.drop 8)).2]) ∧ W = w') := fun W => by
              have := refNumber_any (s.extract 8 s.size) W hz
              rw [show (s.extract 8 s.size).data.toList = s.data.toList.drop 8 by rw [ba_drop]] at this
              exact this.mono fun e w' h => ⟨h.1, h.2.symm⟩
            rw [hp] at hpr
            clear hp hraw d8 hsz hdl hz
            unfold maxLen at hs
            generalize (Oct.number (s.data.toList.drop 8)).1 = m at *
            generalize (Oct.number (s.data.toList.drop 8)).2 = q at *
            by_cases hq : q = 0
            · subst hq
              have hr : Hid (Gr.preply s = (13, (m : Int), 0)) := by show _ = _; rw [hpr.out, if_pos ⟨rfl, rfl⟩]
              clear hpr
              go_enter Tryd.func14, Tryd.ntmps14
              go_wp2_with (go_at_call 28; refine (HN.out _).mono ?_; rintro e w' ⟨rfl, rfl⟩)
              go_ret3
              exact ⟨ret_iii (by rw [hr.out]) (by rw [hr.out]) (by rw [hr.out]), rfl⟩
            · have hr : Hid (Gr.preply s = (0, 0, 3)) := by show _ = _; rw [hpr.out, if_neg (fun h => hq h.2)]
              have c0 : ((q : Int) != 0) = true := by rw [bne_iff_ne]; omega
              have c1 : (q != 0) = true := by rw [bne_iff_ne]; exact hq
              clear hpr hq
              go_enter Tryd.func14, Tryd.ntmps14
              go_wp2_with (go_at_call 28; refine (HN.out _).mono ?_; rintro e w' ⟨rfl, rfl⟩)
              go_ret3
              exact ⟨ret_iii (by rw [hr.out]) (by rw [hr.out]) (by rw [hr.out]), rfl⟩

set_option maxHeartbeats 1000000 in
theorem replies_walk (y : Int) (_y0 : -9223372036854775808 ≤ y) (_y1 : y ≤ 9223372036854775807) (n : Int) (n0 : -9223372036854775808 ≤ n) (n1 : n ≤ 9223372036854775807) (s : ByteArray) (hs : s.size ≤ maxLen) (w : World) (htab : Lib.TabIs Tryd.prog w "internal/strconv.uint64pow10" .u64 Lib.pow10Tab) :
    Calls Tryd.prog 4 #[.int .i64 y, .int .i64 n, .string s] w fun e w' => e = .returned (.bool true) ∧ Below w.heap.size w w' := by
  have HA : Hid (∀ W, Calls Tryd.prog 6 #[] W fun e w' => e = .returned (.bool true) ∧ Below W.heap.size W w') := awake_any
  by_cases hb : 3000 < s.size
  · have HL1 : Hid (∀ w : World, Calls Tryd.prog 5 #[.slice (some ⟨w.heap.size, 0, none⟩) 1 1] (w.alloc (.cells #[.string s] 9)) fun e w' => e = .returned (.bool true) ∧ Below w.heap.size w w') := fun w => long_one s w true (decide_eq_true hb)
    clear hb htab
    go_enter Tryd.func4, Tryd.ntmps4
    go_wp2_with (go_at_call 5; refine (HL1.out w).mono ?_; rintro e w1 ⟨rfl, b1⟩)
    go_wp2_with (go_at_call 6; refine (HA.out _).mono ?_; rintro e w2 ⟨rfl, b2⟩)
    go_ret
    exact ⟨rfl, b1.trans (b2.mono b1.size)⟩
  · have HL1 : Hid (∀ w : World, Calls Tryd.prog 5 #[.slice (some ⟨w.heap.size, 0, none⟩) 1 1] (w.alloc (.cells #[.string s] 9)) fun e w' => e = .returned (.bool false) ∧ Below w.heap.size w w') := fun w => long_one s w false (decide_eq_false hb)
    have H1 : Hid (∀ W, Below w.heap.size w W → Calls Tryd.prog 11 #[.int .i64 y, .int .i64 n] W fun e w' => e = .returned (.tuple #[.string (Gr.reply y n).1, .int .i64 (Gr.reply y n).2]) ∧ Below W.heap.size W w') := fun W hW => reply_any y n n0 n1 W (tab_below htab hW)
    have H2 : Hid (∀ W, Calls Tryd.prog 12 #[.int .i64 y, .int .i64 n] W fun e w' => e = .returned (.tuple #[.string (Gr.reply y n).1, .int .i64 (Gr.reply y n).2]) ∧ Below W.heap.size W w') := fun W => refReply_any y n n0 n1 W
    have H3 : Hid (∀ W, Calls Tryd.prog 13 #[.string s] W fun e w' => e = .returned (.tuple #[.int .i64 (Gr.preply s).1, .int .i64 (Gr.preply s).2.1, .int .i64 (Gr.preply s).2.2]) ∧ W = w') := fun W => (preply_any s W hs).mono fun e w' h => ⟨h.1, h.2.symm⟩
    have H4 : Hid (∀ W, Calls Tryd.prog 14 #[.string s] W fun e w' => e = .returned (.tuple #[.int .i64 (Gr.preply s).1, .int .i64 (Gr.preply s).2.1, .int .i64 (Gr.preply s).2.2]) ∧ W = w') := fun W => (refPreply_any s W hs).mono fun e w' h => ⟨h.1, h.2.symm⟩
    generalize (Gr.reply y n).1 = x1 at *
    generalize (Gr.reply y n).2 = x2 at *
    generalize (Gr.preply s).1 = x3 at *
    generalize (Gr.preply s).2.1 = x4 at *
    generalize (Gr.preply s).2.2 = x5 at *
    clear hb htab
    go_enter Tryd.func4, Tryd.ntmps4
    go_wp2_with (go_at_call 5; refine (HL1.out w).mono ?_; rintro e w1 ⟨rfl, b1⟩)
    go_wp2_with (go_at_call 11; refine (H1.out _ b1).mono ?_; rintro e w2 ⟨rfl, b2⟩)
    go_wp2_with (go_at_call 12; refine (H2.out _).mono ?_; rintro e w3 ⟨rfl, b3⟩)
    go_wp2_with (go_at_call 13; refine (H3.out _).mono ?_; rintro e w' ⟨rfl, rfl⟩)
    go_wp2_with (go_at_call 14; refine (H4.out _).mono ?_; rintro e w' ⟨rfl, rfl⟩)
    go_wp2_with (go_at_call 6; refine (HA.out _).mono ?_; rintro e w4 ⟨rfl, b4⟩)
    go_ret
    have B2 := b1.trans (b2.mono b1.size)
    have B3 := B2.trans (b3.mono B2.size)
    exact ⟨rfl, B3.trans (b4.mono B3.size)⟩
end Go.Proofs.YtpndcbilnbihaaaDoor
