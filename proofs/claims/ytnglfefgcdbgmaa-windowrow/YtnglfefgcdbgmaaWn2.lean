/-
  Walks of layer 14: mayBe; Begin, the program's and the document's; the document's Ahead.
-/
import Derived.Test.YtnglfefgcdbgmaaWn1
import Derived.WalkMore
namespace Go.Proofs.Ytnglfefgcdbgmaa
open Go.RowKit
set_option maxHeartbeats 1000000 in
theorem mayBe_go (m s b : Int) (bm b1 bs bb : Bool) (HM : Hid (∀ w, Calls Try.prog 24 #[.int .i64 m] w fun e w' => e = .returned (.bool bm) ∧ w' = w))
    (h1 : decide (1 ≤ s) = b1)
    (HA : Hid (∀ w, Calls Try.prog 25 #[.int .i64 s, .int .i64 m] w fun e w' => e = .returned (.bool bs) ∧ w' = w))
    (HB : Hid (∀ w, Calls Try.prog 25 #[.int .i64 b, .int .i64 m] w fun e w' => e = .returned (.bool bb) ∧ w' = w)) (w : World) :
    Calls Try.prog 23 #[.int .i64 m, .int .i64 s, .int .i64 b] w fun e w' => e = .returned (.bool (bm && (b1 && (bs && bb)))) ∧ w' = w := by
  cases bm with
  | false =>
    go_enter Try.func23, Try.ntmps23
    go_wp2_with (first
      | (go_at_call 24; refine (HM.out _).mono ?_; rintro e w2 ⟨rfl, rfl⟩))
    go_ret
    exact ⟨rfl, rfl⟩
  | true => cases b1 with
    | false =>
      go_enter Try.func23, Try.ntmps23
      go_wp2_with (first
        | (go_at_call 24; refine (HM.out _).mono ?_; rintro e w2 ⟨rfl, rfl⟩))
      go_ret
      exact ⟨rfl, rfl⟩
    | true => cases bs with
      | false =>
        go_enter Try.func23, Try.ntmps23
        go_wp2_with (first
          | (go_at_call 24; refine (HM.out _).mono ?_; rintro e w2 ⟨rfl, rfl⟩)
          | (go_at_call 25; refine (HA.out _).mono ?_; rintro e w2 ⟨rfl, rfl⟩))
        go_ret
        exact ⟨rfl, rfl⟩
      | true => cases bb with
        | false =>
          go_enter Try.func23, Try.ntmps23
          go_wp2_with (first
            | (go_at_call 24; refine (HM.out _).mono ?_; rintro e w2 ⟨rfl, rfl⟩)
            | (go_at_call 25; first | (with_reducible refine (HA.out _).mono ?_; rintro e w2 ⟨rfl, rfl⟩) | (with_reducible refine (HB.out _).mono ?_; rintro e w2 ⟨rfl, rfl⟩)))
          go_ret
          exact ⟨rfl, rfl⟩
        | true =>
          go_enter Try.func23, Try.ntmps23
          go_wp2_with (first
            | (go_at_call 24; refine (HM.out _).mono ?_; rintro e w2 ⟨rfl, rfl⟩)
            | (go_at_call 25; first | (with_reducible refine (HA.out _).mono ?_; rintro e w2 ⟨rfl, rfl⟩) | (with_reducible refine (HB.out _).mono ?_; rintro e w2 ⟨rfl, rfl⟩)))
          go_ret
          exact ⟨rfl, rfl⟩
def Wn.fitB (m s b : Int) : Bool := decide (2 ≤ m ∧ m ≤ 64 ∧ 1 ≤ s ∧ s < m ∧ 0 ≤ b ∧ b < m)
theorem Wn.fit_bool (m s b : Int) : (decide (2 ≤ m ∧ m ≤ 64) && (decide (1 ≤ s) && (decide (0 ≤ s ∧ s < m) && decide (0 ≤ b ∧ b < m)))) = Wn.fitB m s b := by
  unfold Wn.fitB
  rw [← Bool.decide_and, ← Bool.decide_and, ← Bool.decide_and]
  apply decide_eq_decide.2
  omega
theorem mayBe_any (m s b : Int) (w : World) : Calls Try.prog 23 #[.int .i64 m, .int .i64 s, .int .i64 b] w fun e w' => e = .returned (.bool (Wn.fitB m s b)) ∧ w' = w := by
  rw [← Wn.fit_bool]
  exact mayBe_go m s b _ _ _ _ (isMod_any m) rfl (below_any s m) (below_any b m) w
set_option maxHeartbeats 1000000 in
set_option maxRecDepth 100000 in
theorem begin_yes (m s b : Int) (w : World) (HM : Hid (∀ w, Calls Try.prog 23 #[.int .i64 m, .int .i64 s, .int .i64 b] w fun e w' => e = .returned (.bool true) ∧ w' = w)) :
    Calls Try.prog 8 #[.int .i64 m, .int .i64 s, .int .i64 b] w fun e w' => e = .returned (.tuple #[.agg #[.int .i64 m, .int .i64 s, .int .i64 b, .slice none 0 0], .int .i64 0]) ∧ Below w.heap.size w w' := by
  go_enter Try.func8, Try.ntmps8
  go_wp2_with (go_at_call 23; refine (HM.out _).mono ?_; rintro e w2 ⟨rfl, rfl⟩)
  exact bodyPost_ret (v := .tuple #[.agg #[.int .i64 m, .int .i64 s, .int .i64 b, .slice none 0 0], .int .i64 0]) (by simp [results, Try.results8, go_sem]) rfl ⟨rfl, Rg.al1 _ _⟩
set_option maxHeartbeats 1000000 in
set_option maxRecDepth 100000 in
theorem begin_no (m s b : Int) (w : World) (HM : Hid (∀ w, Calls Try.prog 23 #[.int .i64 m, .int .i64 s, .int .i64 b] w fun e w' => e = .returned (.bool false) ∧ w' = w)) :
    Calls Try.prog 8 #[.int .i64 m, .int .i64 s, .int .i64 b] w fun e w' => e = .returned (.tuple #[.agg #[.int .i64 0, .int .i64 0, .int .i64 0, .slice none 0 0], .int .i64 1]) ∧ Below w.heap.size w w' := by
  go_enter Try.func8, Try.ntmps8
  go_wp2_with (go_at_call 23; refine (HM.out _).mono ?_; rintro e w2 ⟨rfl, rfl⟩)
  exact bodyPost_ret (v := .tuple #[.agg #[.int .i64 0, .int .i64 0, .int .i64 0, .slice none 0 0], .int .i64 1]) (by simp [results, Try.results8, go_sem]) rfl ⟨rfl, Rg.al1 _ _⟩
/-- What Begin answers. -/
def BPost (w : World) (m s b : Int) (e : Ending) (w' : World) : Prop := e = .returned (.tuple #[.agg #[.int .i64 (Wn.begin_ m s b).1.md, .int .i64 (Wn.begin_ m s b).1.sz, .int .i64 (Wn.begin_ m s b).1.bs, .slice none 0 0], .int .i64 ((Wn.begin_ m s b).2 : Nat)]) ∧ Below w.heap.size w w'
theorem begin_any (m s b : Int) (w : World) : Calls Try.prog 8 #[.int .i64 m, .int .i64 s, .int .i64 b] w fun e w' => BPost w m s b e w' := by
  have HM := mayBe_any m s b
  unfold BPost
  by_cases h : Wn.fit m s b
  · rw [show Wn.fitB m s b = true from decide_eq_true h] at HM
    rw [show Wn.begin_ m s b = (⟨m, s, b, []⟩, 0) from if_pos h]
    exact begin_yes m s b w HM
  · rw [show Wn.fitB m s b = false from decide_eq_false h] at HM
    rw [show Wn.begin_ m s b = (Wn.zero, 1) from if_neg h]
    exact begin_no m s b w HM
set_option maxHeartbeats 1000000 in
set_option maxRecDepth 100000 in
theorem rahead_no (a b m : Int) (h : ¬ (2 ≤ m ∧ m ≤ 64 ∧ 0 ≤ a ∧ a < m ∧ 0 ≤ b ∧ b < m)) (w : World) :
    Calls Try.prog 11 #[.int .i64 a, .int .i64 b, .int .i64 m] w fun e w' => e = .returned (.int .i64 (-1)) ∧ w' = w := by
  by_cases h0 : m < 2
  · have d0 : decide (m < 2) = true := by simp; omega
    go_enter Try.func11, Try.ntmps11
    go_wp2
    go_ret
    exact ⟨rfl, rfl⟩
  have d0 : decide (m < 2) = false := by simp; omega
  by_cases h1 : 64 < m
  · have d1 : decide (64 < m) = true := by simp; omega
    go_enter Try.func11, Try.ntmps11
    go_wp2
    go_ret
    exact ⟨rfl, rfl⟩
  have d1 : decide (64 < m) = false := by simp; omega
  by_cases h2 : a < 0
  · have d2 : decide (a < 0) = true := by simp; omega
    go_enter Try.func11, Try.ntmps11
    go_wp2
    go_ret
    exact ⟨rfl, rfl⟩
  have d2 : decide (a < 0) = false := by simp; omega
  by_cases h3 : m ≤ a
  · have d3 : decide (m ≤ a) = true := by simp; omega
    go_enter Try.func11, Try.ntmps11
    go_wp2
    go_ret
    exact ⟨rfl, rfl⟩
  have d3 : decide (m ≤ a) = false := by simp; omega
  by_cases h4 : b < 0
  · have d4 : decide (b < 0) = true := by simp; omega
    go_enter Try.func11, Try.ntmps11
    go_wp2
    go_ret
    exact ⟨rfl, rfl⟩
  have d4 : decide (b < 0) = false := by simp; omega
  have d5 : decide (m ≤ b) = true := by simp; omega
  go_enter Try.func11, Try.ntmps11
  go_wp2
  go_ret
  exact ⟨rfl, rfl⟩
set_option maxHeartbeats 1000000 in
set_option maxRecDepth 100000 in
theorem rahead_yes (a b m D E R : Int) (d0 : decide (m < 2) = false) (d1 : decide (64 < m) = false) (d2 : decide (a < 0) = false) (d3 : decide (m ≤ a) = false) (d4 : decide (b < 0) = false) (d5 : decide (m ≤ b) = false)
    (q0 : IntKind.i64.wrap (b - a) = D) (_q1 : wrap64 (b - a) = D) (q2 : IntKind.i64.wrap (D + m) = E) (_q3 : wrap64 (D + m) = E) (q4 : E.tmod m = R) (_q5 : (m == 0) = false) (q6 : ¬ m = 0) (w : World) :
    Calls Try.prog 11 #[.int .i64 a, .int .i64 b, .int .i64 m] w fun e w' => e = .returned (.int .i64 R) ∧ w' = w := by
  go_enter Try.func11, Try.ntmps11
  go_wp2
  go_ret
  exact ⟨rfl, rfl⟩
theorem rahead_any (a b m : Int) (w : World) : Calls Try.prog 11 #[.int .i64 a, .int .i64 b, .int .i64 m] w fun e w' => e = .returned (.int .i64 (Wn.ahead a b m)) ∧ w' = w := by
  by_cases h : 2 ≤ m ∧ m ≤ 64 ∧ 0 ≤ a ∧ a < m ∧ 0 ≤ b ∧ b < m
  · have hr := Wn.ahead_eq h
    obtain ⟨h1, h2, h3, h4, h5, h6⟩ := h
    have w1 := Wn.wrp (z := b - a) (by omega) (by omega)
    have w2 := Wn.wrp (z := b - a + m) (by omega) (by omega)
    rw [hr]
    exact rahead_yes a b m (b - a) (b - a + m) _ (by simp; omega) (by simp; omega) (by simp; omega) (by simp; omega) (by simp; omega) (by simp; omega) w1.1 w1.2 w2.1 w2.2 (Int.tmod_eq_emod_of_nonneg (by omega)) (by simp; omega) (by omega) w
  · rw [Wn.ahead_no h]
    exact rahead_no a b m h w
set_option maxHeartbeats 2000000 in
set_option maxRecDepth 100000 in
theorem rbegin_no (m s b : Int) (h : ¬ Wn.fit m s b) (w : World) :
    Calls Try.prog 9 #[.int .i64 m, .int .i64 s, .int .i64 b] w fun e w' => e = .returned (.tuple #[.agg #[.int .i64 0, .int .i64 0, .int .i64 0, .slice none 0 0], .int .i64 1]) ∧ Below w.heap.size w w' := by
  unfold Wn.fit at h
  by_cases h0 : m < 2
  · have d0 : decide (m < 2) = true := by simp; omega
    clear h
    go_enter Try.func9, Try.ntmps9
    go_wp2
    exact bodyPost_ret (v := .tuple #[.agg #[.int .i64 0, .int .i64 0, .int .i64 0, .slice none 0 0], .int .i64 1]) (by simp [results, Try.results9, go_sem]) rfl ⟨rfl, Rg.al1 _ _⟩
  have d0 : decide (m < 2) = false := by simp; omega
  by_cases h1 : 64 < m
  · have d1 : decide (64 < m) = true := by simp; omega
    clear h
    go_enter Try.func9, Try.ntmps9
    go_wp2
    exact bodyPost_ret (v := .tuple #[.agg #[.int .i64 0, .int .i64 0, .int .i64 0, .slice none 0 0], .int .i64 1]) (by simp [results, Try.results9, go_sem]) rfl ⟨rfl, Rg.al1 _ _⟩
  have d1 : decide (64 < m) = false := by simp; omega
  by_cases h2 : s < 1
  · have d2 : decide (s < 1) = true := by simp; omega
    clear h
    go_enter Try.func9, Try.ntmps9
    go_wp2
    exact bodyPost_ret (v := .tuple #[.agg #[.int .i64 0, .int .i64 0, .int .i64 0, .slice none 0 0], .int .i64 1]) (by simp [results, Try.results9, go_sem]) rfl ⟨rfl, Rg.al1 _ _⟩
  have d2 : decide (s < 1) = false := by simp; omega
  by_cases h3 : m ≤ s
  · have d3 : decide (m ≤ s) = true := by simp; omega
    clear h
    go_enter Try.func9, Try.ntmps9
    go_wp2
    exact bodyPost_ret (v := .tuple #[.agg #[.int .i64 0, .int .i64 0, .int .i64 0, .slice none 0 0], .int .i64 1]) (by simp [results, Try.results9, go_sem]) rfl ⟨rfl, Rg.al1 _ _⟩
  have d3 : decide (m ≤ s) = false := by simp; omega
  by_cases h4 : b < 0
  · have d4 : decide (b < 0) = true := by simp; omega
    clear h
    go_enter Try.func9, Try.ntmps9
    go_wp2
    exact bodyPost_ret (v := .tuple #[.agg #[.int .i64 0, .int .i64 0, .int .i64 0, .slice none 0 0], .int .i64 1]) (by simp [results, Try.results9, go_sem]) rfl ⟨rfl, Rg.al1 _ _⟩
  have d4 : decide (b < 0) = false := by simp; omega
  have d5 : decide (m ≤ b) = true := by simp; omega
  clear h
  go_enter Try.func9, Try.ntmps9
  go_wp2
  exact bodyPost_ret (v := .tuple #[.agg #[.int .i64 0, .int .i64 0, .int .i64 0, .slice none 0 0], .int .i64 1]) (by simp [results, Try.results9, go_sem]) rfl ⟨rfl, Rg.al1 _ _⟩
set_option maxHeartbeats 2000000 in
set_option maxRecDepth 100000 in
theorem rbegin_yes (m s b : Int) (h : Wn.fit m s b) (w : World) :
    Calls Try.prog 9 #[.int .i64 m, .int .i64 s, .int .i64 b] w fun e w' => e = .returned (.tuple #[.agg #[.int .i64 m, .int .i64 s, .int .i64 b, .slice none 0 0], .int .i64 0]) ∧ Below w.heap.size w w' := by
  unfold Wn.fit at h
  have d0 : decide (m < 2) = false := by simp; omega
  have d1 : decide (64 < m) = false := by simp; omega
  have d2 : decide (s < 1) = false := by simp; omega
  have d3 : decide (m ≤ s) = false := by simp; omega
  have d4 : decide (b < 0) = false := by simp; omega
  have d5 : decide (m ≤ b) = false := by simp; omega
  clear h
  go_enter Try.func9, Try.ntmps9
  go_wp2
  exact bodyPost_ret (v := .tuple #[.agg #[.int .i64 m, .int .i64 s, .int .i64 b, .slice none 0 0], .int .i64 0]) (by simp [results, Try.results9, go_sem]) rfl ⟨rfl, Rg.al1 _ _⟩
theorem rbegin_any (m s b : Int) (w : World) : Calls Try.prog 9 #[.int .i64 m, .int .i64 s, .int .i64 b] w fun e w' => BPost w m s b e w' := by
  unfold BPost
  by_cases h : Wn.fit m s b
  · rw [show Wn.begin_ m s b = (⟨m, s, b, []⟩, 0) from if_pos h]
    exact rbegin_yes m s b h w
  · rw [show Wn.begin_ m s b = (Wn.zero, 1) from if_neg h]
    exact rbegin_no m s b h w
end Go.Proofs.Ytnglfefgcdbgmaa
