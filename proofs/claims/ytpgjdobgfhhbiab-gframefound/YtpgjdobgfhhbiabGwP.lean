/-
  Walks of the laws of layer 11: GframeFound.
-/
import Derived.Test.YtpgjdobgfhhbiabGwO
namespace Go.Proofs.Ytpgjdobgfhhbiab
open Go.RowKit
set_option maxHeartbeats 4000000 in
set_option maxRecDepth 100000 in
theorem found_b1 (t h l z : Int) (d n s : ByteArray) (w : World) (bw : Below w.heap.size w (w.alloc (.cells #[.int .i64 t, .int .i64 h, .int .i64 l, .int .i64 z, .string d] 23))) (kw : Rg.Bk w.heap.size [.int .i64 t, .int .i64 h, .int .i64 l, .int .i64 z, .string d] 23 (w.alloc (.cells #[.int .i64 t, .int .i64 h, .int .i64 l, .int .i64 z, .string d] 23))) (HA : Hid (∀ W, Below w.heap.size w W → Rg.Bk w.heap.size [.int .i64 t, .int .i64 h, .int .i64 l, .int .i64 z, .string d] 23 W → Calls Try.prog 5 #[] W fun e w' => e = .returned (.bool true) ∧ Below w.heap.size w w' ∧ Rg.Bk w.heap.size [.int .i64 t, .int .i64 h, .int .i64 l, .int .i64 z, .string d] 23 w'))
    (q1 : decide ((500 : Int) < (d.size : Int)) = true) (X : ByteArray) (E : Int)
    (HW : Hid (∀ W, Below w.heap.size w W → Rg.Bk w.heap.size [.int .i64 t, .int .i64 h, .int .i64 l, .int .i64 z, .string d] 23 W → Calls Try.prog 4 #[.agg #[.int .i64 t, .int .i64 h, .int .i64 l, .int .i64 z, .string d]] W fun e w' => e = .returned (.tuple #[.string X, .int .i64 E]) ∧ Below w.heap.size w w' ∧ Rg.Bk w.heap.size [.int .i64 t, .int .i64 h, .int .i64 l, .int .i64 z, .string d] 23 w')) :
    Calls Try.prog 3 #[.agg #[.int .i64 t, .int .i64 h, .int .i64 l, .int .i64 z, .string d], .string n, .string s] w fun e w' => e = .returned (.bool true) ∧ Below w.heap.size w w' := by
  go_enter Try.func3, Try.ntmps3
  go_wp2_with (first
    | (go_at_call 5; (first | with_reducible refine (HA.out _ (by first | assumption | exact Gf.more (by assumption) _) (by first | assumption | exact Rg.Bk.old (by assumption) _)).mono ?_); rintro e w' ⟨rfl, b', k'⟩; have c' := k'.cell; have z' := k'.lt)
    | (go_at_call 4; (first | with_reducible refine (HW.out _ (by first | assumption | exact Gf.more (by assumption) _) (by first | assumption | exact Rg.Bk.old (by assumption) _)).mono ?_); rintro e w' ⟨rfl, b', k'⟩; have c' := k'.cell; have z' := k'.lt))
  all_goals
    go_ret
    exact ⟨rfl, by first | assumption | exact Gf.more (by assumption) _⟩
set_option maxHeartbeats 4000000 in
set_option maxRecDepth 100000 in
theorem found_b2 (t h l z : Int) (d n s : ByteArray) (w : World) (bw : Below w.heap.size w (w.alloc (.cells #[.int .i64 t, .int .i64 h, .int .i64 l, .int .i64 z, .string d] 23))) (kw : Rg.Bk w.heap.size [.int .i64 t, .int .i64 h, .int .i64 l, .int .i64 z, .string d] 23 (w.alloc (.cells #[.int .i64 t, .int .i64 h, .int .i64 l, .int .i64 z, .string d] 23))) (HA : Hid (∀ W, Below w.heap.size w W → Rg.Bk w.heap.size [.int .i64 t, .int .i64 h, .int .i64 l, .int .i64 z, .string d] 23 W → Calls Try.prog 5 #[] W fun e w' => e = .returned (.bool true) ∧ Below w.heap.size w w' ∧ Rg.Bk w.heap.size [.int .i64 t, .int .i64 h, .int .i64 l, .int .i64 z, .string d] 23 w'))
    (q1 : decide ((500 : Int) < (d.size : Int)) = false) (q2 : decide ((2000 : Int) < (n.size : Int)) = true) (X : ByteArray) (E : Int)
    (HW : Hid (∀ W, Below w.heap.size w W → Rg.Bk w.heap.size [.int .i64 t, .int .i64 h, .int .i64 l, .int .i64 z, .string d] 23 W → Calls Try.prog 4 #[.agg #[.int .i64 t, .int .i64 h, .int .i64 l, .int .i64 z, .string d]] W fun e w' => e = .returned (.tuple #[.string X, .int .i64 E]) ∧ Below w.heap.size w w' ∧ Rg.Bk w.heap.size [.int .i64 t, .int .i64 h, .int .i64 l, .int .i64 z, .string d] 23 w')) :
    Calls Try.prog 3 #[.agg #[.int .i64 t, .int .i64 h, .int .i64 l, .int .i64 z, .string d], .string n, .string s] w fun e w' => e = .returned (.bool true) ∧ Below w.heap.size w w' := by
  go_enter Try.func3, Try.ntmps3
  go_wp2_with (first
    | (go_at_call 5; (first | with_reducible refine (HA.out _ (by first | assumption | exact Gf.more (by assumption) _) (by first | assumption | exact Rg.Bk.old (by assumption) _)).mono ?_); rintro e w' ⟨rfl, b', k'⟩; have c' := k'.cell; have z' := k'.lt)
    | (go_at_call 4; (first | with_reducible refine (HW.out _ (by first | assumption | exact Gf.more (by assumption) _) (by first | assumption | exact Rg.Bk.old (by assumption) _)).mono ?_); rintro e w' ⟨rfl, b', k'⟩; have c' := k'.cell; have z' := k'.lt))
  all_goals
    go_ret
    exact ⟨rfl, by first | assumption | exact Gf.more (by assumption) _⟩
set_option maxHeartbeats 4000000 in
set_option maxRecDepth 100000 in
theorem found_b3 (t h l z : Int) (d n s : ByteArray) (w : World) (bw : Below w.heap.size w (w.alloc (.cells #[.int .i64 t, .int .i64 h, .int .i64 l, .int .i64 z, .string d] 23))) (kw : Rg.Bk w.heap.size [.int .i64 t, .int .i64 h, .int .i64 l, .int .i64 z, .string d] 23 (w.alloc (.cells #[.int .i64 t, .int .i64 h, .int .i64 l, .int .i64 z, .string d] 23))) (HA : Hid (∀ W, Below w.heap.size w W → Rg.Bk w.heap.size [.int .i64 t, .int .i64 h, .int .i64 l, .int .i64 z, .string d] 23 W → Calls Try.prog 5 #[] W fun e w' => e = .returned (.bool true) ∧ Below w.heap.size w w' ∧ Rg.Bk w.heap.size [.int .i64 t, .int .i64 h, .int .i64 l, .int .i64 z, .string d] 23 w'))
    (q1 : decide ((500 : Int) < (d.size : Int)) = false) (q2 : decide ((2000 : Int) < (n.size : Int)) = false) (q3 : decide ((2000 : Int) < (s.size : Int)) = true) (X : ByteArray) (E : Int)
    (HW : Hid (∀ W, Below w.heap.size w W → Rg.Bk w.heap.size [.int .i64 t, .int .i64 h, .int .i64 l, .int .i64 z, .string d] 23 W → Calls Try.prog 4 #[.agg #[.int .i64 t, .int .i64 h, .int .i64 l, .int .i64 z, .string d]] W fun e w' => e = .returned (.tuple #[.string X, .int .i64 E]) ∧ Below w.heap.size w w' ∧ Rg.Bk w.heap.size [.int .i64 t, .int .i64 h, .int .i64 l, .int .i64 z, .string d] 23 w')) :
    Calls Try.prog 3 #[.agg #[.int .i64 t, .int .i64 h, .int .i64 l, .int .i64 z, .string d], .string n, .string s] w fun e w' => e = .returned (.bool true) ∧ Below w.heap.size w w' := by
  go_enter Try.func3, Try.ntmps3
  go_wp2_with (first
    | (go_at_call 5; (first | with_reducible refine (HA.out _ (by first | assumption | exact Gf.more (by assumption) _) (by first | assumption | exact Rg.Bk.old (by assumption) _)).mono ?_); rintro e w' ⟨rfl, b', k'⟩; have c' := k'.cell; have z' := k'.lt)
    | (go_at_call 4; (first | with_reducible refine (HW.out _ (by first | assumption | exact Gf.more (by assumption) _) (by first | assumption | exact Rg.Bk.old (by assumption) _)).mono ?_); rintro e w' ⟨rfl, b', k'⟩; have c' := k'.cell; have z' := k'.lt))
  all_goals
    go_ret
    exact ⟨rfl, by first | assumption | exact Gf.more (by assumption) _⟩
set_option maxHeartbeats 4000000 in
set_option maxRecDepth 100000 in
theorem found_no (t h l z : Int) (d n s : ByteArray) (w : World) (bw : Below w.heap.size w (w.alloc (.cells #[.int .i64 t, .int .i64 h, .int .i64 l, .int .i64 z, .string d] 23))) (kw : Rg.Bk w.heap.size [.int .i64 t, .int .i64 h, .int .i64 l, .int .i64 z, .string d] 23 (w.alloc (.cells #[.int .i64 t, .int .i64 h, .int .i64 l, .int .i64 z, .string d] 23))) (HA : Hid (∀ W, Below w.heap.size w W → Rg.Bk w.heap.size [.int .i64 t, .int .i64 h, .int .i64 l, .int .i64 z, .string d] 23 W → Calls Try.prog 5 #[] W fun e w' => e = .returned (.bool true) ∧ Below w.heap.size w w' ∧ Rg.Bk w.heap.size [.int .i64 t, .int .i64 h, .int .i64 l, .int .i64 z, .string d] 23 w'))
    (q1 : decide ((500 : Int) < (d.size : Int)) = false) (q2 : decide ((2000 : Int) < (n.size : Int)) = false) (q3 : decide ((2000 : Int) < (s.size : Int)) = false)
    (HW : Hid (∀ W, Below w.heap.size w W → Rg.Bk w.heap.size [.int .i64 t, .int .i64 h, .int .i64 l, .int .i64 z, .string d] 23 W → Calls Try.prog 4 #[.agg #[.int .i64 t, .int .i64 h, .int .i64 l, .int .i64 z, .string d]] W fun e w' => e = .returned (.tuple #[.string ⟨#[]⟩, .int .i64 1]) ∧ Below w.heap.size w w' ∧ Rg.Bk w.heap.size [.int .i64 t, .int .i64 h, .int .i64 l, .int .i64 z, .string d] 23 w')) :
    Calls Try.prog 3 #[.agg #[.int .i64 t, .int .i64 h, .int .i64 l, .int .i64 z, .string d], .string n, .string s] w fun e w' => e = .returned (.bool true) ∧ Below w.heap.size w w' := by
  go_enter Try.func3, Try.ntmps3
  go_wp2_with (first
    | (go_at_call 5; (first | with_reducible refine (HA.out _ (by first | assumption | exact Gf.more (by assumption) _) (by first | assumption | exact Rg.Bk.old (by assumption) _)).mono ?_); rintro e w' ⟨rfl, b', k'⟩; have c' := k'.cell; have z' := k'.lt)
    | (go_at_call 4; (first | with_reducible refine (HW.out _ (by first | assumption | exact Gf.more (by assumption) _) (by first | assumption | exact Rg.Bk.old (by assumption) _)).mono ?_); rintro e w' ⟨rfl, b', k'⟩; have c' := k'.cell; have z' := k'.lt))
  all_goals
    go_ret
    exact ⟨rfl, by first | assumption | exact Gf.more (by assumption) _⟩
set_option maxHeartbeats 4000000 in
set_option maxRecDepth 100000 in
theorem found_16 (t h l z : Int) (d n s : ByteArray) (w : World) (bw : Below w.heap.size w (w.alloc (.cells #[.int .i64 t, .int .i64 h, .int .i64 l, .int .i64 z, .string d] 23))) (kw : Rg.Bk w.heap.size [.int .i64 t, .int .i64 h, .int .i64 l, .int .i64 z, .string d] 23 (w.alloc (.cells #[.int .i64 t, .int .i64 h, .int .i64 l, .int .i64 z, .string d] 23))) (HA : Hid (∀ W, Below w.heap.size w W → Rg.Bk w.heap.size [.int .i64 t, .int .i64 h, .int .i64 l, .int .i64 z, .string d] 23 W → Calls Try.prog 5 #[] W fun e w' => e = .returned (.bool true) ∧ Below w.heap.size w w' ∧ Rg.Bk w.heap.size [.int .i64 t, .int .i64 h, .int .i64 l, .int .i64 z, .string d] 23 w'))
    (q1 : decide ((500 : Int) < (d.size : Int)) = false) (q2 : decide ((2000 : Int) < (n.size : Int)) = false) (q3 : decide ((2000 : Int) < (s.size : Int)) = false) (X : ByteArray) (J : Nat) (hJ : J < n.size) (h16 : n[J].toNat = 16) (hn : n.size ≤ 2000)
    (HW : Hid (∀ W, Below w.heap.size w W → Rg.Bk w.heap.size [.int .i64 t, .int .i64 h, .int .i64 l, .int .i64 z, .string d] 23 W → Calls Try.prog 4 #[.agg #[.int .i64 t, .int .i64 h, .int .i64 l, .int .i64 z, .string d]] W fun e w' => e = .returned (.tuple #[.string X, .int .i64 0]) ∧ Below w.heap.size w w' ∧ Rg.Bk w.heap.size [.int .i64 t, .int .i64 h, .int .i64 l, .int .i64 z, .string d] 23 w')) :
    Calls Try.prog 3 #[.agg #[.int .i64 t, .int .i64 h, .int .i64 l, .int .i64 z, .string d], .string n, .string s] w fun e w' => e = .returned (.bool true) ∧ Below w.heap.size w w' := by
  go_enter Try.func3, Try.ntmps3
  go_wp2_with (go_at_call 4; refine (HW.out _ bw kw).mono ?_; rintro e w1 ⟨rfl, b1, k1⟩; have c1 := k1.cell; have z1 := k1.lt)
  go_loopw [39] (fun i wr => ∃ k : Nat, k ≤ J ∧ i = .int .i64 k ∧ w1 = wr) (fun i _ => n.size - (intOf i).toNat)
  case atStart => exact ⟨0, Nat.zero_le _, rfl, rfl⟩
  case round =>
    obtain ⟨k, hk, rfl, rfl⟩ := hrel
    have hlt : k < n.size := by omega
    have hki : (k : Int) < (n.size : Int) := by omega
    have hk0 : (0 : Int) ≤ (k : Int) := by omega
    have hb := UInt8.toNat_lt n[k]
    by_cases he : n[k].toNat = 16
    · have d1 : ((n[k].toNat : Int) == 16) = true := beq_iff_eq.2 (by omega)
      clear he h16
      go_wp2_with (go_at_call 5; refine (HA.out _ b1 k1).mono ?_; rintro e w2 ⟨rfl, b2, k2⟩)
      go_ret
      exact ⟨rfl, b2⟩
    · have d1 : ((n[k].toNat : Int) == 16) = false := beq_eq_false_iff_ne.2 (by omega)
      have hkJ : k < J := by
        rcases Nat.lt_or_ge k J with h | h
        · exact h
        · obtain rfl : k = J := by omega
          exact absurd h16 he
      clear he h16
      go_wp2
      go_roundw
      case rel => exact ⟨k + 1, by omega, by go_num, trivial⟩
      case measure => simp [intOf]; omega
set_option maxHeartbeats 4000000 in
set_option maxRecDepth 100000 in
theorem found_yes (t h l z : Int) (d n s : ByteArray) (w : World) (bw : Below w.heap.size w (w.alloc (.cells #[.int .i64 t, .int .i64 h, .int .i64 l, .int .i64 z, .string d] 23))) (kw : Rg.Bk w.heap.size [.int .i64 t, .int .i64 h, .int .i64 l, .int .i64 z, .string d] 23 (w.alloc (.cells #[.int .i64 t, .int .i64 h, .int .i64 l, .int .i64 z, .string d] 23))) (HA : Hid (∀ W, Below w.heap.size w W → Rg.Bk w.heap.size [.int .i64 t, .int .i64 h, .int .i64 l, .int .i64 z, .string d] 23 W → Calls Try.prog 5 #[] W fun e w' => e = .returned (.bool true) ∧ Below w.heap.size w w' ∧ Rg.Bk w.heap.size [.int .i64 t, .int .i64 h, .int .i64 l, .int .i64 z, .string d] 23 w'))
    (q1 : decide ((500 : Int) < (d.size : Int)) = false) (q2 : decide ((2000 : Int) < (n.size : Int)) = false) (q3 : decide ((2000 : Int) < (s.size : Int)) = false) (X : ByteArray) (NX : Nat) (h16 : Hid (∀ (k : Nat) (h : k < n.size), ¬ n[k].toNat = 16)) (hn : n.size ≤ 2000) (hX : X.size ≤ 5000) (hs : s.size ≤ 2000) (hN : (n.size : Int) + (X.size : Int) = (NX : Int))
    (HW : Hid (∀ W, Below w.heap.size w W → Rg.Bk w.heap.size [.int .i64 t, .int .i64 h, .int .i64 l, .int .i64 z, .string d] 23 W → Calls Try.prog 4 #[.agg #[.int .i64 t, .int .i64 h, .int .i64 l, .int .i64 z, .string d]] W fun e w' => e = .returned (.tuple #[.string X, .int .i64 0]) ∧ Below w.heap.size w w' ∧ Rg.Bk w.heap.size [.int .i64 t, .int .i64 h, .int .i64 l, .int .i64 z, .string d] 23 w'))
    (HS : Hid (∀ W, Below w.heap.size w W → Rg.Bk w.heap.size [.int .i64 t, .int .i64 h, .int .i64 l, .int .i64 z, .string d] 23 W → Calls Try.prog 6 #[.string (n ++ X ++ s)] W fun e w' => e = .returned (.tuple #[.agg #[.int .i64 t, .int .i64 h, .int .i64 l, .int .i64 z, .string d], .agg #[.int .i64 n.size, .int .i64 NX], .bool true]) ∧ Below w.heap.size w w' ∧ Rg.Bk w.heap.size [.int .i64 t, .int .i64 h, .int .i64 l, .int .i64 z, .string d] 23 w')) :
    Calls Try.prog 3 #[.agg #[.int .i64 t, .int .i64 h, .int .i64 l, .int .i64 z, .string d], .string n, .string s] w fun e w' => e = .returned (.bool true) ∧ Below w.heap.size w w' := by
  go_enter Try.func3, Try.ntmps3
  go_wp2_with (go_at_call 4; refine (HW.out _ bw kw).mono ?_; rintro e w1 ⟨rfl, b1, k1⟩; have c1 := k1.cell; have z1 := k1.lt)
  go_loopw [39] (fun i wr => ∃ k : Nat, k ≤ n.size ∧ i = .int .i64 k ∧ w1 = wr) (fun i _ => n.size - (intOf i).toNat)
  case atStart => exact ⟨0, Nat.zero_le _, rfl, rfl⟩
  case round =>
    obtain ⟨k, hk, rfl, rfl⟩ := hrel
    by_cases hlt : k < n.size
    · have hki : (k : Int) < (n.size : Int) := by omega
      have hk0 : (0 : Int) ≤ (k : Int) := by omega
      have hb := UInt8.toNat_lt n[k]
      have he := h16.out k hlt
      have d1 : ((n[k].toNat : Int) == 16) = false := beq_eq_false_iff_ne.2 (by omega)
      clear he
      go_wp2
      go_roundw
      case rel => exact ⟨k + 1, by omega, by go_num, trivial⟩
      case measure => simp [intOf]; omega
    · have d1 : decide ((k : Int) < (n.size : Int)) = false := by simp; omega
      clear h16
      go_wp2_with (first
        | (go_at_call 6; refine (HS.out _ b1 k1).mono ?_; rintro e w2 ⟨rfl, b2, k2⟩; have c2 := k2.cell; have z2 := k2.lt)
        | (go_at_call 5; refine (HA.out _ (Gf.more (Gf.more b2 _) _) ((k2.old _).old _)).mono ?_; rintro e w3 ⟨rfl, b3, k3⟩))
      go_ret
      exact ⟨rfl, b3⟩
theorem found_walk (t h l z : Int) (d n s : ByteArray) (w : World) :
    Calls Try.prog 3 #[.agg #[.int .i64 t, .int .i64 h, .int .i64 l, .int .i64 z, .string d], .string n, .string s] w fun e w' => e = .returned (.bool true) ∧ Below w.heap.size w w' := by
  have bw := Gf.below1 w (.cells #[.int .i64 t, .int .i64 h, .int .i64 l, .int .i64 z, .string d] 23)
  have kw : Rg.Bk w.heap.size [.int .i64 t, .int .i64 h, .int .i64 l, .int .i64 z, .string d] 23 (w.alloc (.cells #[.int .i64 t, .int .i64 h, .int .i64 l, .int .i64 z, .string d] 23)) := Rg.Bk.new rfl
  have HA := keepF (C := [.int .i64 t, .int .i64 h, .int .i64 l, .int .i64 z, .string d]) (ty := 23) w gawake_any
  obtain ⟨X, E, HW0⟩ : ∃ (X : ByteArray) (E : Int), ∀ W, Calls Try.prog 4 #[.agg #[.int .i64 t, .int .i64 h, .int .i64 l, .int .i64 z, .string d]] W fun e w' => e = .returned (.tuple #[.string X, .int .i64 E]) ∧ Below W.heap.size W w' := by
    by_cases hk : Gf.ok ⟨t, h, l, z, d.data.toList⟩
    · exact ⟨_, 0, write_yes t h l z d hk⟩
    · exact ⟨_, 1, write_no t h l z d hk⟩
  by_cases q1 : 500 < d.size
  · exact found_b1 t h l z d n s w bw kw HA (by simp; omega) X E (keepF w HW0)
  have q1' : decide ((500 : Int) < (d.size : Int)) = false := by simp; omega
  by_cases q2 : 2000 < n.size
  · exact found_b2 t h l z d n s w bw kw HA q1' (by simp; omega) X E (keepF w HW0)
  have q2' : decide ((2000 : Int) < (n.size : Int)) = false := by simp; omega
  by_cases q3 : 2000 < s.size
  · exact found_b3 t h l z d n s w bw kw HA q1' q2' (by simp; omega) X E (keepF w HW0)
  have q3' : decide ((2000 : Int) < (s.size : Int)) = false := by simp; omega
  clear HW0
  by_cases hk : Gf.ok ⟨t, h, l, z, d.data.toList⟩
  · have HW := keepF (C := [.int .i64 t, .int .i64 h, .int .i64 l, .int .i64 z, .string d]) (ty := 23) w (write_yes t h l z d hk)
    have hX := (Gf.text_size hk).1
    by_cases h16 : ∃ (k : Nat) (hkn : k < n.size), n[k].toNat = 16
    · obtain ⟨J, hJ, h16⟩ := h16
      exact found_16 t h l z d n s w bw kw HA q1' q2' q3' _ J hJ h16 (by omega) HW
    · have h16' : ∀ (k : Nat) (hkn : k < n.size), ¬ n[k].toNat = 16 := fun k hkn e => h16 ⟨k, hkn, e⟩
      have hall : ∀ c ∈ n.data.toList, ¬ c = 16 := by
        intro c hc e
        obtain ⟨i, hi, hci⟩ := List.getElem_of_mem hc
        have hi' : i < n.size := by rw [← Gf.len_eq]; exact hi
        refine h16' i hi' ?_
        have : n[i] = c := hci
        rw [this, e]; rfl
      have hsz : (n ++ ⟨(Gf.text ⟨t, h, l, z, d.data.toList⟩).toArray⟩ ++ s).size ≤ 9000 := by rw [Gf.app_size, Gf.app_size]; omega
      have HS0 := fun W => gscan_any (n ++ ⟨(Gf.text ⟨t, h, l, z, d.data.toList⟩).toArray⟩ ++ s) hsz W
      have e : (n ++ ⟨(Gf.text ⟨t, h, l, z, d.data.toList⟩).toArray⟩ ++ s).data.toList = n.data.toList ++ (Gf.text ⟨t, h, l, z, d.data.toList⟩ ++ s.data.toList) := by
        rw [ByteArray.data_append, Array.toList_append, ByteArray.data_append, Array.toList_append, List.append_assoc]
      rw [e, Gf.scan_found hk n.data.toList 0 s.data.toList hall, Nat.zero_add, Gf.len_eq, ← Gf.size_of] at HS0
      exact found_yes t h l z d n s w bw kw HA q1' q2' q3' _ (n.size + (⟨(Gf.text ⟨t, h, l, z, d.data.toList⟩).toArray⟩ : ByteArray).size) h16' (by omega) (by omega) (by omega) (by omega) HW (keepF w HS0)
  · exact found_no t h l z d n s w bw kw HA q1' q2' q3' (keepF w (write_no t h l z d hk))
end Go.Proofs.Ytpgjdobgfhhbiab
