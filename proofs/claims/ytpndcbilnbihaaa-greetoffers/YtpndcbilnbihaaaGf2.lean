/-
  Layer 9: Offer, ParseOffer, the program's and the document's.
-/
import Derived.Test.YtpndcbilnbihaaaGf1
namespace Go.Proofs.Ytpndcbilnbihaaa
open Go.RowKit

set_option maxHeartbeats 400000 in
theorem offer_any (s : ByteArray) (w : World) (hs : s.size ≤ 3000) :
    Calls Try.prog 17 #[.string s] w fun e w' => e = .returned (.tuple #[.string (Gr.offer s).1, .int .i64 (Gr.offer s).2]) ∧ Below w.heap.size w w' := by
  have H1 : Hid (∀ W, Calls Try.prog 32 #[.string s] W fun e w' => e = .returned (.bool (Gr.lets s.data.toList)) ∧ Below W.heap.size W w') := fun W => areLetters_any s W
  cases hy : Gr.lets s.data.toList with
  | true =>
    have hr : Hid (Gr.offer s = (⟨#[80]⟩ ++ s, 0)) := by show _ = _; unfold Gr.offer; rw [if_pos hy]
    rw [hy] at H1
    clear hy
    go_enter Try.func17, Try.ntmps17
    go_wp2_with (go_at_call 32; refine (H1.out _).mono ?_; rintro e w1 ⟨rfl, b1⟩)
    go_ret2
    exact ⟨ret_se (by rw [hr.out]) (by rw [hr.out]), b1⟩
  | false =>
    have hr : Hid (Gr.offer s = (⟨#[]⟩, 1)) := by show _ = _; unfold Gr.offer; rw [if_neg (by simp [hy])]
    rw [hy] at H1
    clear hy
    go_enter Try.func17, Try.ntmps17
    go_wp2_with (go_at_call 32; refine (H1.out _).mono ?_; rintro e w1 ⟨rfl, b1⟩)
    go_ret2
    exact ⟨ret_se (by rw [hr.out]) (by rw [hr.out]), b1⟩
set_option maxHeartbeats 400000 in
theorem refOffer_any (s : ByteArray) (w : World) (hs : s.size ≤ 3000) :
    Calls Try.prog 18 #[.string s] w fun e w' => e = .returned (.tuple #[.string (Gr.offer s).1, .int .i64 (Gr.offer s).2]) ∧ Below w.heap.size w w' := by
  have H1 : Hid (∀ W, Calls Try.prog 33 #[.string s] W fun e w' => e = .returned (.bool (Gr.lets s.data.toList)) ∧ Below W.heap.size W w') := fun W => refLetters_any s W (by unfold maxLen; omega)
  cases hy : Gr.lets s.data.toList with
  | true =>
    have hr : Hid (Gr.offer s = (⟨#[80]⟩ ++ s, 0)) := by show _ = _; unfold Gr.offer; rw [if_pos hy]
    rw [hy] at H1
    clear hy
    go_enter Try.func18, Try.ntmps18
    go_wp2_with (go_at_call 33; refine (H1.out _).mono ?_; rintro e w1 ⟨rfl, b1⟩)
    go_ret2
    exact ⟨ret_se (by rw [hr.out]) (by rw [hr.out]), b1⟩
  | false =>
    have hr : Hid (Gr.offer s = (⟨#[]⟩, 1)) := by show _ = _; unfold Gr.offer; rw [if_neg (by simp [hy])]
    rw [hy] at H1
    clear hy
    go_enter Try.func18, Try.ntmps18
    go_wp2_with (go_at_call 33; refine (H1.out _).mono ?_; rintro e w1 ⟨rfl, b1⟩)
    go_ret2
    exact ⟨ret_se (by rw [hr.out]) (by rw [hr.out]), b1⟩

set_option maxHeartbeats 400000 in
theorem poffer_any (s : ByteArray) (w : World) :
    Calls Try.prog 19 #[.string s] w fun e w' => e = .returned (.tuple #[.string (Gr.poffer s).1, .int .i64 (Gr.poffer s).2]) ∧ Below w.heap.size w w' := by
  have HC : Hid (∀ W, Calls Try.prog 29 #[.string s, .string ⟨#[80]⟩] W fun e w' => e = .returned (.tuple #[.string ⟨(Lib.trimPrefix s.data.toList [80]).toArray⟩, .bool (Lib.hasPrefix s.data.toList [80])]) ∧ W = w') := fun W => (Try.strings_CutPrefix s ⟨#[80]⟩ W).mono fun e w' h => ⟨h.1, h.2.symm⟩
  cases hp : Lib.hasPrefix s.data.toList [80] with
  | false =>
    have hr : Hid (Gr.poffer s = (⟨#[]⟩, 3)) := by show _ = _; unfold Gr.poffer; rw [if_neg (by simp [hp])]
    rw [hp] at HC
    generalize Lib.trimPrefix s.data.toList [80] = tl at *
    clear hp
    go_enter Try.func19, Try.ntmps19
    go_wp2_with (go_at_call 29; refine (HC.out _).mono ?_; rintro e w' ⟨rfl, rfl⟩)
    go_ret2
    exact ⟨ret_se (by rw [hr.out]) (by rw [hr.out]), Below.refl _ _⟩
  | true =>
    have ht : Lib.trimPrefix s.data.toList [80] = s.data.toList.drop 1 := Gr.trim1 hp
    rw [hp, ht] at HC
    have H1 : Hid (∀ W, Calls Try.prog 32 #[.string ⟨(s.data.toList.drop 1).toArray⟩] W fun e w' => e = .returned (.bool (Gr.lets (s.data.toList.drop 1))) ∧ Below W.heap.size W w') := fun W => areLetters_any ⟨(s.data.toList.drop 1).toArray⟩ W
    cases hy : Gr.lets (s.data.toList.drop 1) with
    | true =>
      have hr : Hid (Gr.poffer s = (⟨(s.data.toList.drop 1).toArray⟩, 0)) := by show _ = _; unfold Gr.poffer; rw [if_pos ⟨hp, hy⟩]
      rw [hy] at H1
      generalize s.data.toList.drop 1 = tl at *
      clear hp hy ht
      go_enter Try.func19, Try.ntmps19
      go_wp2_with (go_at_call 29; refine (HC.out _).mono ?_; rintro e w' ⟨rfl, rfl⟩)
      go_wp2_with (go_at_call 32; refine (H1.out _).mono ?_; rintro e w1 ⟨rfl, b1⟩)
      go_ret2
      exact ⟨ret_se (by rw [hr.out]) (by rw [hr.out]), b1⟩
    | false =>
      have hr : Hid (Gr.poffer s = (⟨#[]⟩, 3)) := by show _ = _; unfold Gr.poffer; rw [if_neg (fun h => absurd (hy.symm.trans h.2) (by decide))]
      rw [hy] at H1
      generalize s.data.toList.drop 1 = tl at *
      clear hp hy ht
      go_enter Try.func19, Try.ntmps19
      go_wp2_with (go_at_call 29; refine (HC.out _).mono ?_; rintro e w' ⟨rfl, rfl⟩)
      go_wp2_with (go_at_call 32; refine (H1.out _).mono ?_; rintro e w1 ⟨rfl, b1⟩)
      go_ret2
      exact ⟨ret_se (by rw [hr.out]) (by rw [hr.out]), b1⟩

set_option maxHeartbeats 400000 in
theorem refPoffer_any (s : ByteArray) (w : World) (hs : s.size ≤ 3000) :
    Calls Try.prog 20 #[.string s] w fun e w' => e = .returned (.tuple #[.string (Gr.poffer s).1, .int .i64 (Gr.poffer s).2]) ∧ Below w.heap.size w w' := by
  by_cases h2 : s.size < 2
  · have hr : Hid (Gr.poffer s = (⟨#[]⟩, 3)) := by show _ = _; unfold Gr.poffer; rw [Gr.drop1_len s (by omega), if_neg (by simp [Gr.lets_nil])]
    go_enter Try.func20, Try.ntmps20
    go_wp2
    go_ret2
    exact ⟨ret_se (by rw [hr.out]) (by rw [hr.out]), Below.refl _ _⟩
  · have h0 : 0 < s.size := by omega
    have hp1 := Gr.pre1 s h0
    have q0 : (0 : Int) < (s.size : Int) := by omega
    have q1 : (1 : Int) ≤ (s.size : Int) := by omega
    by_cases h80 : (s[0].toNat : Int) = 80
    · have hp : Lib.hasPrefix s.data.toList [80] = true := by rw [hp1, show s[0] = 80 from Gr.u8_eq (n := 80) (by omega) h80]; rfl
      have d0 : ((s[0].toNat : Int) != 80) = false := by rw [h80]; rfl
      have hd : Hid (s.extract 1 s.size = ⟨(s.data.toList.drop 1).toArray⟩) := ba_drop s 1
      have hz : (s.extract 1 s.size).size ≤ maxLen := by rw [ba_drop]; show (s.data.toList.drop 1).toArray.size ≤ maxLen; rw [List.size_toArray, List.length_drop, Array.length_toList]; have : s.data.size = s.size := rfl; unfold maxLen; omega
      have H1 : Hid (∀ W, Calls Try.prog 33 #[.string (s.extract 1 s.size)] W fun e w' => e = .returned (.bool (Gr.lets (s.data.toList.drop 1))) ∧ Below W.heap.size W w') := fun W => by
        have := refLetters_any (s.extract 1 s.size) W hz
        rwa [show (s.extract 1 s.size).data.toList = s.data.toList.drop 1 by rw [ba_drop]] at this
      cases hy : Gr.lets (s.data.toList.drop 1) with
      | true =>
        have hr : Hid (Gr.poffer s = (s.extract 1 s.size, 0)) := by show _ = _; unfold Gr.poffer; rw [if_pos ⟨hp, hy⟩, hd.out]
        rw [hy] at H1
        clear hp hy hz hp1 hd
        go_enter Try.func20, Try.ntmps20
        go_wp2_with (go_at_call 33; refine (H1.out _).mono ?_; rintro e w1 ⟨rfl, b1⟩)
        go_ret2
        exact ⟨ret_se (by rw [hr.out]) (by rw [hr.out]), b1⟩
      | false =>
        have hr : Hid (Gr.poffer s = (⟨#[]⟩, 3)) := by show _ = _; unfold Gr.poffer; rw [if_neg (fun h => absurd (hy.symm.trans h.2) (by decide))]
        rw [hy] at H1
        clear hp hy hz hp1 hd
        go_enter Try.func20, Try.ntmps20
        go_wp2_with (go_at_call 33; refine (H1.out _).mono ?_; rintro e w1 ⟨rfl, b1⟩)
        go_ret2
        exact ⟨ret_se (by rw [hr.out]) (by rw [hr.out]), b1⟩
    · have hp : Lib.hasPrefix s.data.toList [80] = false := by rw [hp1, beq_eq_false_iff_ne]; rintro e; apply h80; rw [e]; rfl
      have d0 : ((s[0].toNat : Int) != 80) = true := by rw [bne_iff_ne]; exact h80
      have hr : Hid (Gr.poffer s = (⟨#[]⟩, 3)) := by show _ = _; unfold Gr.poffer; rw [if_neg (by simp [hp])]
      clear hp hp1 h80
      go_enter Try.func20, Try.ntmps20
      go_wp2
      go_ret2
      exact ⟨ret_se (by rw [hr.out]) (by rw [hr.out]), Below.refl _ _⟩
end Go.Proofs.Ytpndcbilnbihaaa
