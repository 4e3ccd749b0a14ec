/-
  Walks of layer 4's statements: awake; PathChecks, PathCleans, PathRests.
-/
import Derived.Test.YtkbemfhdamdglaaDoorPat8
namespace Go.Proofs.YtkbemfhdamdglaaDoor
open Go.RowKit

theorem ba_eq {s : ByteArray} {l : List UInt8} (h : l = s.data.toList) : (⟨l.toArray⟩ : ByteArray) = s := by rw [h]

theorem mean1 : Pth.clean [47, 97, 47, 47, 46, 47, 98, 47, 46, 46, 47, 99] = ([47, 97, 47, 99], 0) := by decide
theorem mean2 : Pth.under [47, 97] [47, 97, 47, 99] = true := by decide
theorem mean3 : Pth.under [47, 98] [47, 97, 47, 99] = false := by decide
theorem mean4 : Pth.chk [47, 97, 47, 47, 98] = 3 := by decide

/-- the contracts, over every world behind one, and told of that one -/
theorem clean_b (p : ByteArray) (w W : World) (hm : MaxIn w) (hs : p.size ≤ maxLen) (hb : Below w.heap.size w W) :
    Calls Tryd.prog 15 #[.string p] W fun e w' => e = .returned (.tuple #[.string ⟨(Pth.clean p.data.toList).1.toArray⟩, .int .i64 ((Pth.clean p.data.toList).2 : Nat)]) ∧ Below w.heap.size w w' :=
  (clean_any p W (hm.below hb (Nat.le_refl _)) hs).mono fun _ _ ⟨he, h2⟩ => ⟨he, hb.trans (h2.mono hb.size)⟩
theorem rclean_b (p : ByteArray) (w W : World) (hs : p.size ≤ maxLen) (hb : Below w.heap.size w W) :
    Calls Tryd.prog 16 #[.string p] W fun e w' => e = .returned (.tuple #[.string ⟨(Pth.clean p.data.toList).1.toArray⟩, .int .i64 ((Pth.clean p.data.toList).2 : Nat)]) ∧ Below w.heap.size w w' :=
  (rclean_any p W hs).mono fun _ _ ⟨he, h2⟩ => ⟨he, hb.trans (h2.mono hb.size)⟩
theorem check_b (p : ByteArray) (w W : World) (hm : MaxIn w) (hs : p.size ≤ maxLen) (hb : Below w.heap.size w W) :
    Calls Tryd.prog 11 #[.string p] W fun e w' => e = .returned (.int .i64 (Pth.chk p.data.toList : Nat)) ∧ Below w.heap.size w w' :=
  (check_any p W (hm.below hb (Nat.le_refl _)) hs).mono fun _ _ ⟨he, h2⟩ => ⟨he, hb.trans (h2.mono hb.size)⟩
theorem rcheck_b (p : ByteArray) (w W : World) (hs : p.size ≤ maxLen) (hb : Below w.heap.size w W) :
    Calls Tryd.prog 12 #[.string p] W fun e w' => e = .returned (.int .i64 (Pth.chk p.data.toList : Nat)) ∧ Below w.heap.size w w' :=
  (rcheck_any p W hs).mono fun _ _ ⟨he, h2⟩ => ⟨he, hb.trans (h2.mono hb.size)⟩
theorem under_b (r p : ByteArray) (w W : World) (hm : MaxIn w) (hr : r.size ≤ maxLen) (hp : p.size ≤ maxLen) (hb : Below w.heap.size w W) :
    Calls Tryd.prog 13 #[.string r, .string p] W fun e w' => e = .returned (.bool (Pth.under r.data.toList p.data.toList)) ∧ Below w.heap.size w w' :=
  (under_any r p W (hm.below hb (Nat.le_refl _)) hr hp).mono fun _ _ ⟨he, h2⟩ => ⟨he, hb.trans (h2.mono hb.size)⟩
theorem runder_b (r p : ByteArray) (w W : World) (hr : r.size ≤ maxLen) (hp : p.size ≤ maxLen) (hb : Below w.heap.size w W) :
    Calls Tryd.prog 14 #[.string r, .string p] W fun e w' => e = .returned (.bool (Pth.under r.data.toList p.data.toList)) ∧ Below w.heap.size w w' :=
  (runder_any r p W hr hp).mono fun _ _ ⟨he, h2⟩ => ⟨he, hb.trans (h2.mono hb.size)⟩
theorem long_b (l : List ByteArray) (w W : World) (L : Bool) (hn : l.length ≤ 1000) (hL : (l.any fun s => decide (3000 < s.size)) = L) (hb : Below w.heap.size w W) :
    Calls Tryd.prog 9 #[.slice (some ⟨W.heap.size, 0, none⟩) l.length l.length] (W.alloc (.cells (l.map Value.string).toArray 9)) fun e w' => e = .returned (.bool L) ∧ Below w.heap.size w w' :=
  (long_new l W L hn hL).mono fun _ _ ⟨he, h2⟩ => ⟨he, hb.trans (h2.mono hb.size)⟩

set_option maxHeartbeats 1000000 in
theorem awake_any (w : World) (hm : MaxIn w) :
    Calls Tryd.prog 10 #[] w fun e w' => e = .returned (.bool true) ∧ Below w.heap.size w w' := by
  have H1 : Hid (∀ W, Below w.heap.size w W → Calls Tryd.prog 15 #[.string ⟨#[47, 97, 47, 47, 46, 47, 98, 47, 46, 46, 47, 99]⟩] W fun e w' => e = .returned (.tuple #[.string ⟨#[47, 97, 47, 99]⟩, .int .i64 0]) ∧ Below w.heap.size w w') := fun W hW => by
    have h := clean_b ⟨#[47, 97, 47, 47, 46, 47, 98, 47, 46, 46, 47, 99]⟩ w W hm (by decide) hW
    rw [show (⟨#[47, 97, 47, 47, 46, 47, 98, 47, 46, 46, 47, 99]⟩ : ByteArray).data.toList = [47, 97, 47, 47, 46, 47, 98, 47, 46, 46, 47, 99] from rfl, mean1] at h
    exact h
  have H2 : Hid (∀ W, Below w.heap.size w W → Calls Tryd.prog 13 #[.string ⟨#[47, 97]⟩, .string ⟨#[47, 97, 47, 99]⟩] W fun e w' => e = .returned (.bool true) ∧ Below w.heap.size w w') := fun W hW => by
    have h := under_b ⟨#[47, 97]⟩ ⟨#[47, 97, 47, 99]⟩ w W hm (by decide) (by decide) hW
    rw [show (⟨#[47, 97]⟩ : ByteArray).data.toList = [47, 97] from rfl, show (⟨#[47, 97, 47, 99]⟩ : ByteArray).data.toList = [47, 97, 47, 99] from rfl, mean2] at h
    exact h
  have H3 : Hid (∀ W, Below w.heap.size w W → Calls Tryd.prog 13 #[.string ⟨#[47, 98]⟩, .string ⟨#[47, 97, 47, 99]⟩] W fun e w' => e = .returned (.bool false) ∧ Below w.heap.size w w') := fun W hW => by
    have h := under_b ⟨#[47, 98]⟩ ⟨#[47, 97, 47, 99]⟩ w W hm (by decide) (by decide) hW
    rw [show (⟨#[47, 98]⟩ : ByteArray).data.toList = [47, 98] from rfl, show (⟨#[47, 97, 47, 99]⟩ : ByteArray).data.toList = [47, 97, 47, 99] from rfl, mean3] at h
    exact h
  have H4 : Hid (∀ W, Below w.heap.size w W → Calls Tryd.prog 11 #[.string ⟨#[47, 97, 47, 47, 98]⟩] W fun e w' => e = .returned (.int .i64 3) ∧ Below w.heap.size w w') := fun W hW => by
    have h := check_b ⟨#[47, 97, 47, 47, 98]⟩ w W hm (by decide) hW
    rw [show (⟨#[47, 97, 47, 47, 98]⟩ : ByteArray).data.toList = [47, 97, 47, 47, 98] from rfl, mean4] at h
    exact h
  have hq : ((⟨#[47, 97, 47, 99]⟩ : ByteArray).toList == [47, 97, 47, 99]) = true := by rw [tl_eq]; rfl
  clear hm
  go_enter Tryd.func10, Tryd.ntmps10
  go_wp2_with (go_at_call 15; refine (H1.out _ (Below.refl _ _)).mono ?_)
  rintro e w1 ⟨rfl, b1⟩
  go_wp2_with (go_at_call 13; refine (H2.out _ b1).mono ?_)
  rintro e w2 ⟨rfl, b2⟩
  go_wp2_with (go_at_call 13; refine (H3.out _ b2).mono ?_)
  rintro e w3 ⟨rfl, b3⟩
  go_wp2_with (go_at_call 11; refine (H4.out _ b3).mono ?_)
  rintro e w4 ⟨rfl, b4⟩
  go_wp2
  go_ret
  exact ⟨rfl, b4⟩

theorem awake_b (w W : World) (hm : MaxIn w) (hb : Below w.heap.size w W) :
    Calls Tryd.prog 10 #[] W fun e w' => e = .returned (.bool true) ∧ Below w.heap.size w w' :=
  (awake_any W (hm.below hb (Nat.le_refl _))).mono fun _ _ ⟨he, h2⟩ => ⟨he, hb.trans (h2.mono hb.size)⟩

set_option maxHeartbeats 1000000 in
theorem checks_walk (p : ByteArray) (hp : p.size ≤ maxLen) (q : ByteArray) (hq : q.size ≤ maxLen) (w : World) (hm : MaxIn w) :
    Calls Tryd.prog 3 #[.string p, .string q] w fun e w' => e = .returned (.bool true) ∧ Below w.heap.size w w' := by
  have HA : Hid (∀ W, Below w.heap.size w W → Calls Tryd.prog 10 #[] W fun e w' => e = .returned (.bool true) ∧ Below w.heap.size w w') := fun W hW => awake_b w W hm hW
  have HL := fun W L hL hW => long_b [p, q] w W L (by simp) hL hW
  have H1 : Hid (∀ W, Below w.heap.size w W → Calls Tryd.prog 11 #[.string p] W fun e w' => e = .returned (.int .i64 (Pth.chk p.data.toList : Nat)) ∧ Below w.heap.size w w') := fun W hW => check_b p w W hm hp hW
  have H2 : Hid (∀ W, Below w.heap.size w W → Calls Tryd.prog 12 #[.string p] W fun e w' => e = .returned (.int .i64 (Pth.chk p.data.toList : Nat)) ∧ Below w.heap.size w w') := fun W hW => rcheck_b p w W hp hW
  have H3 : Hid (∀ W, Below w.heap.size w W → Calls Tryd.prog 13 #[.string p, .string q] W fun e w' => e = .returned (.bool (Pth.under p.data.toList q.data.toList)) ∧ Below w.heap.size w w') := fun W hW => under_b p q w W hm hp hq hW
  have H4 : Hid (∀ W, Below w.heap.size w W → Calls Tryd.prog 14 #[.string p, .string q] W fun e w' => e = .returned (.bool (Pth.under p.data.toList q.data.toList)) ∧ Below w.heap.size w w') := fun W hW => runder_b p q w W hp hq hW
  generalize Pth.chk p.data.toList = a at *
  generalize Pth.under p.data.toList q.data.toList = u at *
  clear hm hp hq
  cases hb : ([p, q].any fun s => decide (3000 < s.size))
  · have HL1 : Hid (∀ W, Below w.heap.size w W → Calls Tryd.prog 9 #[.slice (some ⟨W.heap.size, 0, none⟩) 2 2] (W.alloc (.cells #[.string p, .string q] 9)) fun e w' => e = .returned (.bool false) ∧ Below w.heap.size w w') := fun W hW => HL W false hb hW
    clear HL hb
    go_enter Tryd.func3, Tryd.ntmps3
    go_wp2_with (go_at_call 9; refine (HL1.out _ (Below.refl _ _)).mono ?_)
    rintro e w1 ⟨rfl, b1⟩
    go_wp2_with (go_at_call 9; refine (HL1.out _ b1).mono ?_)
    rintro e w2 ⟨rfl, b2⟩
    go_wp2_with (go_at_call 11; refine (H1.out _ b2).mono ?_)
    rintro e w3 ⟨rfl, b3⟩
    go_wp2_with (go_at_call 12; refine (H2.out _ b3).mono ?_)
    rintro e w4 ⟨rfl, b4⟩
    go_wp2_with (go_at_call 13; refine (H3.out _ b4).mono ?_)
    rintro e w5 ⟨rfl, b5⟩
    go_wp2_with (go_at_call 14; refine (H4.out _ b5).mono ?_)
    rintro e w6 ⟨rfl, b6⟩
    go_wp2_with (go_at_call 10; refine (HA.out _ b6).mono ?_)
    rintro e w7 ⟨rfl, b7⟩
    go_wp2
    go_ret
    exact ⟨rfl, b7⟩
  · have HL1 : Hid (∀ W, Below w.heap.size w W → Calls Tryd.prog 9 #[.slice (some ⟨W.heap.size, 0, none⟩) 2 2] (W.alloc (.cells #[.string p, .string q] 9)) fun e w' => e = .returned (.bool true) ∧ Below w.heap.size w w') := fun W hW => HL W true hb hW
    clear HL hb H1 H2 H3 H4
    go_enter Tryd.func3, Tryd.ntmps3
    go_wp2_with (go_at_call 9; refine (HL1.out _ (Below.refl _ _)).mono ?_)
    rintro e w1 ⟨rfl, b1⟩
    go_wp2_with (go_at_call 10; refine (HA.out _ b1).mono ?_)
    rintro e w2 ⟨rfl, b2⟩
    go_wp2
    go_ret
    exact ⟨rfl, b2⟩

set_option maxHeartbeats 1000000 in
theorem cleans_walk (p : ByteArray) (hp : p.size ≤ maxLen) (w : World) (hm : MaxIn w) :
    Calls Tryd.prog 4 #[.string p] w fun e w' => e = .returned (.bool true) ∧ Below w.heap.size w w' := by
  have HA : Hid (∀ W, Below w.heap.size w W → Calls Tryd.prog 10 #[] W fun e w' => e = .returned (.bool true) ∧ Below w.heap.size w w') := fun W hW => awake_b w W hm hW
  have HL := fun W L hL hW => long_b [p] w W L (by simp) hL hW
  have H1 : Hid (∀ W, Below w.heap.size w W → Calls Tryd.prog 15 #[.string p] W fun e w' => e = .returned (.tuple #[.string ⟨(Pth.clean p.data.toList).1.toArray⟩, .int .i64 ((Pth.clean p.data.toList).2 : Nat)]) ∧ Below w.heap.size w w') := fun W hW => clean_b p w W hm hp hW
  have H2 : Hid (∀ W, Below w.heap.size w W → Calls Tryd.prog 16 #[.string p] W fun e w' => e = .returned (.tuple #[.string ⟨(Pth.clean p.data.toList).1.toArray⟩, .int .i64 ((Pth.clean p.data.toList).2 : Nat)]) ∧ Below w.heap.size w w') := fun W hW => rclean_b p w W hp hW
  generalize (⟨(Pth.clean p.data.toList).1.toArray⟩ : ByteArray) = a at *
  generalize (Pth.clean p.data.toList).2 = n at *
  clear hm hp
  cases hb : ([p].any fun s => decide (3000 < s.size))
  · have HL1 : Hid (∀ W, Below w.heap.size w W → Calls Tryd.prog 9 #[.slice (some ⟨W.heap.size, 0, none⟩) 1 1] (W.alloc (.cells #[.string p] 9)) fun e w' => e = .returned (.bool false) ∧ Below w.heap.size w w') := fun W hW => HL W false hb hW
    clear HL hb
    go_enter Tryd.func4, Tryd.ntmps4
    go_wp2_with (go_at_call 9; refine (HL1.out _ (Below.refl _ _)).mono ?_)
    rintro e w1 ⟨rfl, b1⟩
    go_wp2_with (go_at_call 15; refine (H1.out _ b1).mono ?_)
    rintro e w3 ⟨rfl, b3⟩
    go_wp2_with (go_at_call 16; refine (H2.out _ b3).mono ?_)
    rintro e w4 ⟨rfl, b4⟩
    go_wp2_with (go_at_call 10; refine (HA.out _ b4).mono ?_)
    rintro e w7 ⟨rfl, b7⟩
    go_wp2
    go_ret
    exact ⟨rfl, b7⟩
  · have HL1 : Hid (∀ W, Below w.heap.size w W → Calls Tryd.prog 9 #[.slice (some ⟨W.heap.size, 0, none⟩) 1 1] (W.alloc (.cells #[.string p] 9)) fun e w' => e = .returned (.bool true) ∧ Below w.heap.size w w') := fun W hW => HL W true hb hW
    clear HL hb H1 H2
    go_enter Tryd.func4, Tryd.ntmps4
    go_wp2_with (go_at_call 9; refine (HL1.out _ (Below.refl _ _)).mono ?_)
    rintro e w1 ⟨rfl, b1⟩
    go_wp2_with (go_at_call 10; refine (HA.out _ b1).mono ?_)
    rintro e w2 ⟨rfl, b2⟩
    go_wp2
    go_ret
    exact ⟨rfl, b2⟩
end Go.Proofs.YtkbemfhdamdglaaDoor
