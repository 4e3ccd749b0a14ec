/-
  Layer 9: Offer, ParseOffer, the program's and the document's.
-/
import Derived.Test.YtpndcbilnbihaabDoorGf1
namespace Go.Proofs.YtpndcbilnbihaabDoor
open Go.RowKit

set_option maxHeartbeats 400000 in
theorem offer_any (s : ByteArray) (w : World) (hs : s.size ≤ 3000) :
    Calls Tryd.prog 10 #[.string s] w fun e w' => e = .returned (.tuple #[.string (Gr.offer s).1, .int .i64 (Gr.offer s).2]) ∧ Below w.heap.size w w' := by
  have H1 : Hid (∀ W, Calls Tryd.prog 23 #[.string s] W fun e w' => e = .returned (.bool (Gr.lets s.data.toList)) ∧ Below W.heap.size W w') := fun W => areLetters_any s W
  cases hy : Gr.lets s.data.toList with
  | true =>
    have hr : Hid (Gr.offer s = (⟨#[80]⟩ ++ s, 0)) := by show _ = _; unfold Gr.offer; rw [if_pos hy]
    rw [hy] at H1
    clear hy
    go_enter Tryd.func10, Tryd.ntmps10
    go_wp2_with (go_at_call 23; refine (H1.out _).mono ?_; rintro e w1 ⟨rfl, b1⟩)
    go_ret2
    exact ⟨ret_se (by rw [hr.out]) (by rw [hr.out]), b1⟩
  | false =>
    have hr : Hid (Gr.offer s = (⟨#[]⟩, 1)) := by show _ = _; unfold Gr.offer; rw [if_neg (by simp [hy])]
    rw [hy] at H1
    clear hy
    go_enter Tryd.func10, Tryd.ntmps10
    go_wp2_with (go_at_call 23; refine (H1.out _).mono ?_; rintro e w1 ⟨rfl, b1⟩)
    go_ret2
    exact ⟨ret_se (by rw [hr.out]) (by rw [hr.out]), b1⟩
set_option maxHeartbeats 400000 in
theorem poffer_any (s : ByteArray) (w : World) :
    Calls Tryd.prog 11 #[.string s] w fun e w' => e = .returned (.tuple #[.string (Gr.poffer s).1, .int .i64 (Gr.poffer s).2]) ∧ Below w.heap.size w w' := by
  have HC : Hid (∀ W, Calls Tryd.prog 20 #[.string s, .string ⟨#[80]⟩] W fun e w' => e = .returned (.tuple #[.string ⟨(Lib.trimPrefix s.data.toList [80]).toArray⟩, .bool (Lib.hasPrefix s.data.toList [80])]) ∧ W = w') := fun W => (Tryd.strings_CutPrefix s ⟨#[80]⟩ W).mono fun e w' h => ⟨h.1, h.2.symm⟩
  cases hp : Lib.hasPrefix s.data.toList [80] with
  | false =>
    have hr : Hid (Gr.poffer s = (⟨#[]⟩, 3)) := by show _ = _; unfold Gr.poffer; rw [if_neg (by simp [hp])]
    rw [hp] at HC
    generalize Lib.trimPrefix s.data.toList [80] = tl at *
    clear hp
    go_enter Tryd.func11, Tryd.ntmps11
    go_wp2_with (go_at_call 20; refine (HC.out _).mono ?_; rintro e w' ⟨rfl, rfl⟩)
    go_ret2
    exact ⟨ret_se (by rw [hr.out]) (by rw [hr.out]), Below.refl _ _⟩
  | true =>
    have ht : Lib.trimPrefix s.data.toList [80] = s.data.toList.drop 1 := Gr.trim1 hp
    rw [hp, ht] at HC
    have H1 : Hid (∀ W, Calls Tryd.prog 23 #[.string ⟨(s.data.toList.drop 1).toArray⟩] W fun e w' => e = .returned (.bool (Gr.lets (s.data.toList.drop 1))) ∧ Below W.heap.size W w') := fun W => areLetters_any ⟨(s.data.toList.drop 1).toArray⟩ W
    cases hy : Gr.lets (s.data.toList.drop 1) with
    | true =>
      have hr : Hid (Gr.poffer s = (⟨(s.data.toList.drop 1).toArray⟩, 0)) := by show _ = _; unfold Gr.poffer; rw [if_pos ⟨hp, hy⟩]
      rw [hy] at H1
      generalize s.data.toList.drop 1 = tl at *
      clear hp hy ht
      go_enter Tryd.func11, Tryd.ntmps11
      go_wp2_with (go_at_call 20; refine (HC.out _).mono ?_; rintro e w' ⟨rfl, rfl⟩)
      go_wp2_with (go_at_call 23; refine (H1.out _).mono ?_; rintro e w1 ⟨rfl, b1⟩)
      go_ret2
      exact ⟨ret_se (by rw [hr.out]) (by rw [hr.out]), b1⟩
    | false =>
      have hr : Hid (Gr.poffer s = (⟨#[]⟩, 3)) := by show _ = _; unfold Gr.poffer; rw [if_neg (fun h => absurd (hy.symm.trans h.2) (by decide))]
      rw [hy] at H1
      generalize s.data.toList.drop 1 = tl at *
      clear hp hy ht
      go_enter Tryd.func11, Tryd.ntmps11
      go_wp2_with (go_at_call 20; refine (HC.out _).mono ?_; rintro e w' ⟨rfl, rfl⟩)
      go_wp2_with (go_at_call 23; refine (H1.out _).mono ?_; rintro e w1 ⟨rfl, b1⟩)
      go_ret2
      exact ⟨ret_se (by rw [hr.out]) (by rw [hr.out]), b1⟩

end Go.Proofs.YtpndcbilnbihaabDoor
