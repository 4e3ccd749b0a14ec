/-
  Walks of layer 14: numbers; Ahead and Begin, the program's and the document's. Walks of layer 14: mayBe; Begin, the program's and the document's; the document's Ahead. Walks of layer 14: a window in memory; isRight, numberAt, placeOf, Find. Walks of layer 14: placeOf, Find; the document's right, Find. Walks of layer 14: rows of texts of one's own; slices.Clone, slices.Grow, slices.Concat of texts. Walks of layer 14: Put.
-/
import Derived.Test.YtfiffbohhhehkaaGreatBuBase
import Derived.Test.YtfiffbohhhehkaaGreatBuMath
import Derived.WalkMore
import Derived.Deep.RegionHeld3
import Derived.Deep.DeepCutAuto
import Derived.Test.YtfiffbohhhehkaaGreatShelf
import Derived.Shelf.Spec.SlicesGrow
namespace Go.Proofs.YtfiffbohhhehkaaGreat
open Go.RowKit
theorem Wn.wrp {z : Int} (h : -9223372036854775808 ≤ z) (h2 : z ≤ 9223372036854775807) : IntKind.i64.wrap z = z ∧ wrap64 z = z := by
  refine ⟨?_, ?_⟩
  · rw [IntKind.wrap_i64]; omega
  · unfold wrap64; omega
theorem Wn.dT {a b : Int} (h : a < b) : decide (a < b) = true := decide_eq_true h
theorem Wn.dF {a b : Int} (h : ¬ a < b) : decide (a < b) = false := decide_eq_false h
theorem Wn.eT {a b : Int} (h : a ≤ b) : decide (a ≤ b) = true := decide_eq_true h
theorem Wn.eF {a b : Int} (h : ¬ a ≤ b) : decide (a ≤ b) = false := decide_eq_false h
set_option maxHeartbeats 400000 in
theorem onward_any (a s m : Int) (ha : 0 ≤ a) (ha2 : a ≤ 1000) (hs : 0 ≤ s) (hs2 : s ≤ 1000) (hm : 1 ≤ m) (hm2 : m ≤ 1000) (w : World) :
    Calls Tryz.prog 130 #[.int .i64 a, .int .i64 s, .int .i64 m] w fun e w' => e = .returned (.int .i64 ((a + s) % m)) ∧ w' = w := by
  have hw := Wn.wrp (z := a + s) (by omega) (by omega)
  have ht : (a + s).tmod m = (a + s) % m := Int.tmod_eq_emod_of_nonneg (by omega)
  have hr0 := Int.emod_nonneg (a + s) (b := m) (by omega)
  have hr1 := Int.emod_lt_of_pos (a + s) (b := m) (by omega)
  generalize (a + s) % m = r at *
  have hw2 := Wn.wrp (z := r) (by omega) (by omega)
  have hm0 : (m == 0) = false := by simp; omega
  have hm1 : ¬ m = 0 := by omega
  obtain ⟨hw1, hw3⟩ := hw
  obtain ⟨hw4, hw5⟩ := hw2
  go_enter Tryz.func130, Tryz.ntmps130
  go_wp2
  go_ret
  exact ⟨rfl, rfl⟩
set_option maxHeartbeats 400000 in
theorem below_any (n m : Int) (w : World) : Calls Tryz.prog 138 #[.int .i64 n, .int .i64 m] w fun e w' => e = .returned (.bool (decide (0 ≤ n ∧ n < m))) ∧ w' = w := by
  by_cases h0 : 0 ≤ n
  · have d0 : decide (0 ≤ n) = true := by simp; omega
    have e : Hid (decide (0 ≤ n ∧ n < m) = decide (n < m)) := by show _ = _; simp [h0]
    rw [e.out]
    go_enter Tryz.func138, Tryz.ntmps138
    go_wp2
    go_ret
    exact ⟨rfl, rfl⟩
  · have d0 : decide (0 ≤ n) = false := by simp; omega
    have e : Hid (decide (0 ≤ n ∧ n < m) = false) := by show _ = _; simp; omega
    rw [e.out]
    go_enter Tryz.func138, Tryz.ntmps138
    go_wp2
    go_ret
    exact ⟨rfl, rfl⟩
set_option maxHeartbeats 400000 in
theorem isMod_any (m : Int) (w : World) : Calls Tryz.prog 137 #[.int .i64 m] w fun e w' => e = .returned (.bool (decide (2 ≤ m ∧ m ≤ 64))) ∧ w' = w := by
  by_cases h0 : 2 ≤ m
  · have d0 : decide (2 ≤ m) = true := by simp; omega
    have e : Hid (decide (2 ≤ m ∧ m ≤ 64) = decide (m ≤ 64)) := by show _ = _; simp [h0]
    rw [e.out]
    go_enter Tryz.func137, Tryz.ntmps137
    go_wp2
    go_ret
    exact ⟨rfl, rfl⟩
  · have d0 : decide (2 ≤ m) = false := by simp; omega
    have e : Hid (decide (2 ≤ m ∧ m ≤ 64) = false) := by show _ = _; simp; omega
    rw [e.out]
    go_enter Tryz.func137, Tryz.ntmps137
    go_wp2
    go_ret
    exact ⟨rfl, rfl⟩
theorem Wn.wrpTo {z D : Int} (hD : z = D) (h : -9223372036854775808 ≤ z) (h2 : z ≤ 9223372036854775807) : IntKind.i64.wrap z = D ∧ wrap64 z = D := by
  subst hD; exact Wn.wrp h h2
set_option maxHeartbeats 1000000 in
theorem ahead_go (a b m D R : Int) (bm ba bb : Bool) (HM : Hid (∀ w, Calls Tryz.prog 137 #[.int .i64 m] w fun e w' => e = .returned (.bool bm) ∧ w' = w))
    (HA : Hid (∀ w, Calls Tryz.prog 138 #[.int .i64 a, .int .i64 m] w fun e w' => e = .returned (.bool ba) ∧ w' = w))
    (HB : Hid (∀ w, Calls Tryz.prog 138 #[.int .i64 b, .int .i64 m] w fun e w' => e = .returned (.bool bb) ∧ w' = w))
    (HO : Hid (bm = true → ba = true → bb = true → ∀ w, Calls Tryz.prog 130 #[.int .i64 b, .int .i64 D, .int .i64 m] w fun e w' => e = .returned (.int .i64 R) ∧ w' = w))
    (hw1 : bm = true → ba = true → bb = true → IntKind.i64.wrap (m - a) = D) (hw2 : bm = true → ba = true → bb = true → wrap64 (m - a) = D) (hR : Hid (¬ (bm = true ∧ ba = true ∧ bb = true) → R = -1)) (w : World) :
    Calls Tryz.prog 127 #[.int .i64 a, .int .i64 b, .int .i64 m] w fun e w' => e = .returned (.int .i64 R) ∧ w' = w := by
  cases bm with
  | false =>
    obtain rfl := hR.out (by simp)
    clear HO hw1 hw2 hR
    go_enter Tryz.func127, Tryz.ntmps127
    go_wp2_with (go_at_call 137; refine (HM.out _).mono ?_; rintro e w2 ⟨rfl, rfl⟩)
    go_ret
    exact ⟨rfl, rfl⟩
  | true => cases ba with
    | false =>
      obtain rfl := hR.out (by simp)
      clear HO hw1 hw2 hR
      go_enter Tryz.func127, Tryz.ntmps127
      go_wp2_with (first
        | (go_at_call 137; refine (HM.out _).mono ?_; rintro e w2 ⟨rfl, rfl⟩)
        | (go_at_call 138; refine (HA.out _).mono ?_; rintro e w2 ⟨rfl, rfl⟩))
      go_ret
      exact ⟨rfl, rfl⟩
    | true => cases bb with
      | false =>
        obtain rfl := hR.out (by simp)
        clear HO hw1 hw2 hR
        go_enter Tryz.func127, Tryz.ntmps127
        go_wp2_with (first
          | (go_at_call 137; refine (HM.out _).mono ?_; rintro e w2 ⟨rfl, rfl⟩)
          | (go_at_call 138; first | (with_reducible refine (HA.out _).mono ?_; rintro e w2 ⟨rfl, rfl⟩) | (with_reducible refine (HB.out _).mono ?_; rintro e w2 ⟨rfl, rfl⟩)))
        go_ret
        exact ⟨rfl, rfl⟩
      | true =>
        have hO := Rg.hid (HO.out rfl rfl rfl)
        replace hw1 := hw1 rfl rfl rfl
        replace hw2 := hw2 rfl rfl rfl
        clear HO hR
        go_enter Tryz.func127, Tryz.ntmps127
        go_wp2_with (first
          | (go_at_call 137; refine (HM.out _).mono ?_; rintro e w2 ⟨rfl, rfl⟩)
          | (go_at_call 138; first | (with_reducible refine (HA.out _).mono ?_; rintro e w2 ⟨rfl, rfl⟩) | (with_reducible refine (HB.out _).mono ?_; rintro e w2 ⟨rfl, rfl⟩))
          | (go_at_call 130; refine (hO.out _).mono ?_; rintro e w2 ⟨rfl, rfl⟩))
        go_ret
        exact ⟨rfl, rfl⟩
theorem ahead_any (a b m : Int) (w : World) : Calls Tryz.prog 127 #[.int .i64 a, .int .i64 b, .int .i64 m] w fun e w' => e = .returned (.int .i64 (Wn.ahead a b m)) ∧ w' = w := by
  refine ahead_go a b m (m - a) _ _ _ _ (isMod_any m) (below_any a m) (below_any b m) ?_ ?_ ?_ ?_ w
  · intro h1 h2 h3 W
    have h1 := of_decide_eq_true h1; have h2 := of_decide_eq_true h2; have h3 := of_decide_eq_true h3
    have hr : (b + (m - a)) % m = Wn.ahead a b m := by rw [Wn.ahead_eq ⟨h1.1, h1.2, h2.1, h2.2, h3.1, h3.2⟩, show b + (m - a) = b - a + m by omega]
    rw [← hr]
    exact onward_any b (m - a) m (by omega) (by omega) (by omega) (by omega) (by omega) (by omega) W
  · intro h1 h2 h3
    have h1 := of_decide_eq_true h1; have h2 := of_decide_eq_true h2
    exact (Wn.wrp (z := m - a) (by omega) (by omega)).1
  · intro h1 h2 h3
    have h1 := of_decide_eq_true h1; have h2 := of_decide_eq_true h2
    exact (Wn.wrp (z := m - a) (by omega) (by omega)).2
  · intro h
    simp only [decide_eq_true_eq] at h
    exact Wn.ahead_no (by omega)
end Go.Proofs.YtfiffbohhhehkaaGreat

namespace Go.Proofs.YtfiffbohhhehkaaGreat
open Go.RowKit
set_option maxHeartbeats 1000000 in
theorem mayBe_go (m s b : Int) (bm b1 bs bb : Bool) (HM : Hid (∀ w, Calls Tryz.prog 137 #[.int .i64 m] w fun e w' => e = .returned (.bool bm) ∧ w' = w))
    (h1 : decide (1 ≤ s) = b1)
    (HA : Hid (∀ w, Calls Tryz.prog 138 #[.int .i64 s, .int .i64 m] w fun e w' => e = .returned (.bool bs) ∧ w' = w))
    (HB : Hid (∀ w, Calls Tryz.prog 138 #[.int .i64 b, .int .i64 m] w fun e w' => e = .returned (.bool bb) ∧ w' = w)) (w : World) :
    Calls Tryz.prog 129 #[.int .i64 m, .int .i64 s, .int .i64 b] w fun e w' => e = .returned (.bool (bm && (b1 && (bs && bb)))) ∧ w' = w := by
  cases bm with
  | false =>
    go_enter Tryz.func129, Tryz.ntmps129
    go_wp2_with (first
      | (go_at_call 137; refine (HM.out _).mono ?_; rintro e w2 ⟨rfl, rfl⟩))
    go_ret
    exact ⟨rfl, rfl⟩
  | true => cases b1 with
    | false =>
      go_enter Tryz.func129, Tryz.ntmps129
      go_wp2_with (first
        | (go_at_call 137; refine (HM.out _).mono ?_; rintro e w2 ⟨rfl, rfl⟩))
      go_ret
      exact ⟨rfl, rfl⟩
    | true => cases bs with
      | false =>
        go_enter Tryz.func129, Tryz.ntmps129
        go_wp2_with (first
          | (go_at_call 137; refine (HM.out _).mono ?_; rintro e w2 ⟨rfl, rfl⟩)
          | (go_at_call 138; refine (HA.out _).mono ?_; rintro e w2 ⟨rfl, rfl⟩))
        go_ret
        exact ⟨rfl, rfl⟩
      | true => cases bb with
        | false =>
          go_enter Tryz.func129, Tryz.ntmps129
          go_wp2_with (first
            | (go_at_call 137; refine (HM.out _).mono ?_; rintro e w2 ⟨rfl, rfl⟩)
            | (go_at_call 138; first | (with_reducible refine (HA.out _).mono ?_; rintro e w2 ⟨rfl, rfl⟩) | (with_reducible refine (HB.out _).mono ?_; rintro e w2 ⟨rfl, rfl⟩)))
          go_ret
          exact ⟨rfl, rfl⟩
        | true =>
          go_enter Tryz.func129, Tryz.ntmps129
          go_wp2_with (first
            | (go_at_call 137; refine (HM.out _).mono ?_; rintro e w2 ⟨rfl, rfl⟩)
            | (go_at_call 138; first | (with_reducible refine (HA.out _).mono ?_; rintro e w2 ⟨rfl, rfl⟩) | (with_reducible refine (HB.out _).mono ?_; rintro e w2 ⟨rfl, rfl⟩)))
          go_ret
          exact ⟨rfl, rfl⟩
def Wn.fitB (m s b : Int) : Bool := decide (2 ≤ m ∧ m ≤ 64 ∧ 1 ≤ s ∧ s < m ∧ 0 ≤ b ∧ b < m)
theorem Wn.fit_bool (m s b : Int) : (decide (2 ≤ m ∧ m ≤ 64) && (decide (1 ≤ s) && (decide (0 ≤ s ∧ s < m) && decide (0 ≤ b ∧ b < m)))) = Wn.fitB m s b := by
  unfold Wn.fitB
  rw [← Bool.decide_and, ← Bool.decide_and, ← Bool.decide_and]
  apply decide_eq_decide.2
  omega
theorem mayBe_any (m s b : Int) (w : World) : Calls Tryz.prog 129 #[.int .i64 m, .int .i64 s, .int .i64 b] w fun e w' => e = .returned (.bool (Wn.fitB m s b)) ∧ w' = w := by
  rw [← Wn.fit_bool]
  exact mayBe_go m s b _ _ _ _ (isMod_any m) rfl (below_any s m) (below_any b m) w
set_option maxHeartbeats 1000000 in
set_option maxRecDepth 100000 in
theorem begin_yes (m s b : Int) (w : World) (HM : Hid (∀ w, Calls Tryz.prog 129 #[.int .i64 m, .int .i64 s, .int .i64 b] w fun e w' => e = .returned (.bool true) ∧ w' = w)) :
    Calls Tryz.prog 125 #[.int .i64 m, .int .i64 s, .int .i64 b] w fun e w' => e = .returned (.tuple #[.agg #[.int .i64 m, .int .i64 s, .int .i64 b, .slice none 0 0], .int .i64 0]) ∧ Below w.heap.size w w' := by
  go_enter Tryz.func125, Tryz.ntmps125
  go_wp2_with (go_at_call 129; refine (HM.out _).mono ?_; rintro e w2 ⟨rfl, rfl⟩)
  exact bodyPost_ret (v := .tuple #[.agg #[.int .i64 m, .int .i64 s, .int .i64 b, .slice none 0 0], .int .i64 0]) (by simp [results, Tryz.results125, go_sem]) rfl ⟨rfl, Rg.al1 _ _⟩
set_option maxHeartbeats 1000000 in
set_option maxRecDepth 100000 in
theorem begin_no (m s b : Int) (w : World) (HM : Hid (∀ w, Calls Tryz.prog 129 #[.int .i64 m, .int .i64 s, .int .i64 b] w fun e w' => e = .returned (.bool false) ∧ w' = w)) :
    Calls Tryz.prog 125 #[.int .i64 m, .int .i64 s, .int .i64 b] w fun e w' => e = .returned (.tuple #[.agg #[.int .i64 0, .int .i64 0, .int .i64 0, .slice none 0 0], .int .i64 1]) ∧ Below w.heap.size w w' := by
  go_enter Tryz.func125, Tryz.ntmps125
  go_wp2_with (go_at_call 129; refine (HM.out _).mono ?_; rintro e w2 ⟨rfl, rfl⟩)
  exact bodyPost_ret (v := .tuple #[.agg #[.int .i64 0, .int .i64 0, .int .i64 0, .slice none 0 0], .int .i64 1]) (by simp [results, Tryz.results125, go_sem]) rfl ⟨rfl, Rg.al1 _ _⟩
/-- What Begin answers. -/
def BPost (w : World) (m s b : Int) (e : Ending) (w' : World) : Prop := e = .returned (.tuple #[.agg #[.int .i64 (Wn.begin_ m s b).1.md, .int .i64 (Wn.begin_ m s b).1.sz, .int .i64 (Wn.begin_ m s b).1.bs, .slice none 0 0], .int .i64 ((Wn.begin_ m s b).2 : Nat)]) ∧ Below w.heap.size w w'
theorem begin_any (m s b : Int) (w : World) : Calls Tryz.prog 125 #[.int .i64 m, .int .i64 s, .int .i64 b] w fun e w' => BPost w m s b e w' := by
  have HM := mayBe_any m s b
  unfold BPost
  by_cases h : Wn.fit m s b
  · rw [show Wn.fitB m s b = true from decide_eq_true h] at HM
    rw [show Wn.begin_ m s b = (⟨m, s, b, []⟩, 0) from if_pos h]
    exact begin_yes m s b w HM
  · rw [show Wn.fitB m s b = false from decide_eq_false h] at HM
    rw [show Wn.begin_ m s b = (Wn.zero, 1) from if_neg h]
    exact begin_no m s b w HM
set_option maxHeartbeats 1000000 in
set_option maxRecDepth 100000 in
theorem rahead_no (a b m : Int) (h : ¬ (2 ≤ m ∧ m ≤ 64 ∧ 0 ≤ a ∧ a < m ∧ 0 ≤ b ∧ b < m)) (w : World) :
    Calls Tryz.prog 66 #[.int .i64 a, .int .i64 b, .int .i64 m] w fun e w' => e = .returned (.int .i64 (-1)) ∧ w' = w := by
  by_cases h0 : m < 2
  · have d0 : decide (m < 2) = true := by simp; omega
    go_enter Tryz.func66, Tryz.ntmps66
    go_wp2
    go_ret
    exact ⟨rfl, rfl⟩
  have d0 : decide (m < 2) = false := by simp; omega
  by_cases h1 : 64 < m
  · have d1 : decide (64 < m) = true := by simp; omega
    go_enter Tryz.func66, Tryz.ntmps66
    go_wp2
    go_ret
    exact ⟨rfl, rfl⟩
  have d1 : decide (64 < m) = false := by simp; omega
  by_cases h2 : a < 0
  · have d2 : decide (a < 0) = true := by simp; omega
    go_enter Tryz.func66, Tryz.ntmps66
    go_wp2
    go_ret
    exact ⟨rfl, rfl⟩
  have d2 : decide (a < 0) = false := by simp; omega
  by_cases h3 : m ≤ a
  · have d3 : decide (m ≤ a) = true := by simp; omega
    go_enter Tryz.func66, Tryz.ntmps66
    go_wp2
    go_ret
    exact ⟨rfl, rfl⟩
  have d3 : decide (m ≤ a) = false := by simp; omega
  by_cases h4 : b < 0
  · have d4 : decide (b < 0) = true := by simp; omega
    go_enter Tryz.func66, Tryz.ntmps66
    go_wp2
    go_ret
    exact ⟨rfl, rfl⟩
  have d4 : decide (b < 0) = false := by simp; omega
  have d5 : decide (m ≤ b) = true := by simp; omega
  go_enter Tryz.func66, Tryz.ntmps66
  go_wp2
  go_ret
  exact ⟨rfl, rfl⟩
set_option maxHeartbeats 1000000 in
set_option maxRecDepth 100000 in
theorem rahead_yes (a b m D E R : Int) (d0 : decide (m < 2) = false) (d1 : decide (64 < m) = false) (d2 : decide (a < 0) = false) (d3 : decide (m ≤ a) = false) (d4 : decide (b < 0) = false) (d5 : decide (m ≤ b) = false)
    (q0 : IntKind.i64.wrap (b - a) = D) (_q1 : wrap64 (b - a) = D) (q2 : IntKind.i64.wrap (D + m) = E) (_q3 : wrap64 (D + m) = E) (q4 : E.tmod m = R) (_q5 : (m == 0) = false) (q6 : ¬ m = 0) (w : World) :
    Calls Tryz.prog 66 #[.int .i64 a, .int .i64 b, .int .i64 m] w fun e w' => e = .returned (.int .i64 R) ∧ w' = w := by
  go_enter Tryz.func66, Tryz.ntmps66
  go_wp2
  go_ret
  exact ⟨rfl, rfl⟩
theorem rahead_any (a b m : Int) (w : World) : Calls Tryz.prog 66 #[.int .i64 a, .int .i64 b, .int .i64 m] w fun e w' => e = .returned (.int .i64 (Wn.ahead a b m)) ∧ w' = w := by
  by_cases h : 2 ≤ m ∧ m ≤ 64 ∧ 0 ≤ a ∧ a < m ∧ 0 ≤ b ∧ b < m
  · have hr := Wn.ahead_eq h
    obtain ⟨h1, h2, h3, h4, h5, h6⟩ := h
    have w1 := Wn.wrp (z := b - a) (by omega) (by omega)
    have w2 := Wn.wrp (z := b - a + m) (by omega) (by omega)
    rw [hr]
    exact rahead_yes a b m (b - a) (b - a + m) _ (by simp; omega) (by simp; omega) (by simp; omega) (by simp; omega) (by simp; omega) (by simp; omega) w1.1 w1.2 w2.1 w2.2 (Int.tmod_eq_emod_of_nonneg (by omega)) (by simp; omega) (by omega) w
  · rw [Wn.ahead_no h]
    exact rahead_no a b m h w
set_option maxHeartbeats 2000000 in
set_option maxRecDepth 100000 in
theorem rbegin_no (m s b : Int) (h : ¬ Wn.fit m s b) (w : World) :
    Calls Tryz.prog 88 #[.int .i64 m, .int .i64 s, .int .i64 b] w fun e w' => e = .returned (.tuple #[.agg #[.int .i64 0, .int .i64 0, .int .i64 0, .slice none 0 0], .int .i64 1]) ∧ Below w.heap.size w w' := by
  unfold Wn.fit at h
  by_cases h0 : m < 2
  · have d0 : decide (m < 2) = true := by simp; omega
    clear h
    go_enter Tryz.func88, Tryz.ntmps88
    go_wp2
    exact bodyPost_ret (v := .tuple #[.agg #[.int .i64 0, .int .i64 0, .int .i64 0, .slice none 0 0], .int .i64 1]) (by simp [results, Tryz.results88, go_sem]) rfl ⟨rfl, Rg.al1 _ _⟩
  have d0 : decide (m < 2) = false := by simp; omega
  by_cases h1 : 64 < m
  · have d1 : decide (64 < m) = true := by simp; omega
    clear h
    go_enter Tryz.func88, Tryz.ntmps88
    go_wp2
    exact bodyPost_ret (v := .tuple #[.agg #[.int .i64 0, .int .i64 0, .int .i64 0, .slice none 0 0], .int .i64 1]) (by simp [results, Tryz.results88, go_sem]) rfl ⟨rfl, Rg.al1 _ _⟩
  have d1 : decide (64 < m) = false := by simp; omega
  by_cases h2 : s < 1
  · have d2 : decide (s < 1) = true := by simp; omega
    clear h
    go_enter Tryz.func88, Tryz.ntmps88
    go_wp2
    exact bodyPost_ret (v := .tuple #[.agg #[.int .i64 0, .int .i64 0, .int .i64 0, .slice none 0 0], .int .i64 1]) (by simp [results, Tryz.results88, go_sem]) rfl ⟨rfl, Rg.al1 _ _⟩
  have d2 : decide (s < 1) = false := by simp; omega
  by_cases h3 : m ≤ s
  · have d3 : decide (m ≤ s) = true := by simp; omega
    clear h
    go_enter Tryz.func88, Tryz.ntmps88
    go_wp2
    exact bodyPost_ret (v := .tuple #[.agg #[.int .i64 0, .int .i64 0, .int .i64 0, .slice none 0 0], .int .i64 1]) (by simp [results, Tryz.results88, go_sem]) rfl ⟨rfl, Rg.al1 _ _⟩
  have d3 : decide (m ≤ s) = false := by simp; omega
  by_cases h4 : b < 0
  · have d4 : decide (b < 0) = true := by simp; omega
    clear h
    go_enter Tryz.func88, Tryz.ntmps88
    go_wp2
    exact bodyPost_ret (v := .tuple #[.agg #[.int .i64 0, .int .i64 0, .int .i64 0, .slice none 0 0], .int .i64 1]) (by simp [results, Tryz.results88, go_sem]) rfl ⟨rfl, Rg.al1 _ _⟩
  have d4 : decide (b < 0) = false := by simp; omega
  have d5 : decide (m ≤ b) = true := by simp; omega
  clear h
  go_enter Tryz.func88, Tryz.ntmps88
  go_wp2
  exact bodyPost_ret (v := .tuple #[.agg #[.int .i64 0, .int .i64 0, .int .i64 0, .slice none 0 0], .int .i64 1]) (by simp [results, Tryz.results88, go_sem]) rfl ⟨rfl, Rg.al1 _ _⟩
set_option maxHeartbeats 2000000 in
set_option maxRecDepth 100000 in
theorem rbegin_yes (m s b : Int) (h : Wn.fit m s b) (w : World) :
    Calls Tryz.prog 88 #[.int .i64 m, .int .i64 s, .int .i64 b] w fun e w' => e = .returned (.tuple #[.agg #[.int .i64 m, .int .i64 s, .int .i64 b, .slice none 0 0], .int .i64 0]) ∧ Below w.heap.size w w' := by
  unfold Wn.fit at h
  have d0 : decide (m < 2) = false := by simp; omega
  have d1 : decide (64 < m) = false := by simp; omega
  have d2 : decide (s < 1) = false := by simp; omega
  have d3 : decide (m ≤ s) = false := by simp; omega
  have d4 : decide (b < 0) = false := by simp; omega
  have d5 : decide (m ≤ b) = false := by simp; omega
  clear h
  go_enter Tryz.func88, Tryz.ntmps88
  go_wp2
  exact bodyPost_ret (v := .tuple #[.agg #[.int .i64 m, .int .i64 s, .int .i64 b, .slice none 0 0], .int .i64 0]) (by simp [results, Tryz.results88, go_sem]) rfl ⟨rfl, Rg.al1 _ _⟩
theorem rbegin_any (m s b : Int) (w : World) : Calls Tryz.prog 88 #[.int .i64 m, .int .i64 s, .int .i64 b] w fun e w' => BPost w m s b e w' := by
  unfold BPost
  by_cases h : Wn.fit m s b
  · rw [show Wn.begin_ m s b = (⟨m, s, b, []⟩, 0) from if_pos h]
    exact rbegin_yes m s b h w
  · rw [show Wn.begin_ m s b = (Wn.zero, 1) from if_neg h]
    exact rbegin_no m s b h w
end Go.Proofs.YtfiffbohhhehkaaGreat

namespace Go.Proofs.YtfiffbohhhehkaaGreat
open Go.RowKit
/-- a text's cell -/
def strE : Rg.El ByteArray := { enc := fun s => [.string s], m := 1, hm := fun _ => rfl, pos := by decide, one := fun x u hu => by simp at hu; subst hu; rfl, ty := 9 }
theorem str_flat (l : List ByteArray) : strE.flat l = l.map Value.string := by
  induction l with
  | nil => rfl
  | cons x l ih => rw [strE.flat_cons, ih]; rfl
/-- nothing, or a row of texts that is read -/
def SRow (W : World) (a : Option Addr) (l : List ByteArray) : Prop := l = [] ∨ ∃ b o, a = some ⟨b, o, none⟩ ∧ b < W.heap.size ∧ Rg.At W b o (strE.flat l)
theorem SRow.nil {W : World} {a : Option Addr} : SRow W a [] := .inl rfl
theorem SRow.of {W : World} {a : Option Addr} {l : List ByteArray} (h : strE.Row W a l) : SRow W a l := by
  rcases h with ⟨_, h⟩ | h
  · exact .inl h
  · exact .inr h
theorem SRow.below {W W' : World} {a : Option Addr} {l : List ByteArray} (h : SRow W a l) (hb : Below W.heap.size W W') : SRow W' a l := by
  rcases h with h | ⟨b, o, h1, h2, h3⟩
  · exact .inl h
  · exact .inr ⟨b, o, h1, Nat.lt_of_lt_of_le h2 hb.size, h3.below hb h2⟩
theorem str_at {W : World} {b o : Nat} {l : List ByteArray} (h : Rg.At W b o (strE.flat l)) {i : Nat} (hi : i < l.length) : W.cell? ⟨b, o + i, none⟩ = some (.string l[i]) := by
  have e := (h.elem hi) 0 (.string l[i]) rfl
  rw [show strE.m = 1 from rfl, Nat.mul_one, Nat.add_zero] at e
  exact e
theorem SRow.cell {W : World} {a : Option Addr} {l : List ByteArray} (h : SRow W a l) {i : Nat} (hi : i < l.length) : ∃ b o, a = some ⟨b, o, none⟩ ∧ b < W.heap.size ∧ Rg.At W b o (strE.flat l) ∧ W.cell? ⟨b, o + i, none⟩ = some (.string l[i]) := by
  rcases h with rfl | ⟨b, o, rfl, hb, hat⟩
  · simp at hi
  · exact ⟨b, o, rfl, hb, hat, str_at hat hi⟩
/-- a window as a value -/
def WV (X : Wn.W) (a : Option Addr) (c : Nat) : Value := .agg #[.int .i64 X.md, .int .i64 X.sz, .int .i64 X.bs, .slice a X.l.length c]
/-- a window in memory: its list is a row, or nothing -/
structure WAt (W : World) (X : Wn.W) (a : Option Addr) (c : Nat) : Prop where
  row : SRow W a X.l
  cap : X.l.length ≤ c
theorem WAt.below {W W' : World} {X : Wn.W} {a : Option Addr} {c : Nat} (h : WAt W X a c) (hb : Below W.heap.size W W') : WAt W' X a c := ⟨h.row.below hb, h.cap⟩
/-- a row of texts stays where the cells of a window turn -/
theorem SRow.only {W W' : World} {a : Option Addr} {l : List ByteArray} {R : Nat} {m s b : Int} {v : Value} {ty : TypeId} (h : SRow W a l) (k : Rg.Bk R [.int .i64 m, .int .i64 s, .int .i64 b, v] ty W) (hv : ∀ x, v ≠ .string x) (ho : Rg.Only R W W') : SRow W' a l := by
  rcases h with h | h
  · exact .inl h
  · refine SRow.of (Rg.El.Row.only (E := strE) (.inr h) k 0 (by decide) ?_ ho)
    intro x u hu e
    have e2 : u = .string x := (Option.some.inj e).symm
    subst e2
    simp at hu
    exact hv x hu.symm
theorem WAt.only {W W' : World} {X : Wn.W} {a : Option Addr} {c : Nat} {R : Nat} {m s b : Int} {v : Value} {ty : TypeId} (h : WAt W X a c) (k : Rg.Bk R [.int .i64 m, .int .i64 s, .int .i64 b, v] ty W) (hv : ∀ x, v ≠ .string x) (ho : Rg.Only R W W') : WAt W' X a c := ⟨h.row.only k hv ho, h.cap⟩

set_option maxHeartbeats 1000000 in
set_option maxRecDepth 100000 in
theorem isRight_go (m s b : Int) (a : Option Addr) (n c : Nat) (bf bl : Bool) (HM : Hid (∀ w, Calls Tryz.prog 129 #[.int .i64 m, .int .i64 s, .int .i64 b] w fun e w' => e = .returned (.bool bf) ∧ w' = w)) (hl : decide ((n : Int) ≤ s) = bl) (w : World) :
    Calls Tryz.prog 109 #[.agg #[.int .i64 m, .int .i64 s, .int .i64 b, .slice a n c]] w fun e w' => e = .returned (.bool (bf && bl)) ∧ Below w.heap.size w w' := by
  cases bf with
  | false =>
    go_enter Tryz.func109, Tryz.ntmps109
    go_wp2_with (go_at_call 129; refine (HM.out _).mono ?_; rintro e w2 ⟨rfl, rfl⟩)
    go_ret
    exact ⟨rfl, Rg.al1 _ _⟩
  | true =>
    go_enter Tryz.func109, Tryz.ntmps109
    go_wp2_with (go_at_call 129; refine (HM.out _).mono ?_; rintro e w2 ⟨rfl, rfl⟩)
    go_ret
    exact ⟨rfl, Rg.al1 _ _⟩
theorem Wn.rt_bool (X : Wn.W) : (Wn.fitB X.md X.sz X.bs && decide ((X.l.length : Int) ≤ X.sz)) = Wn.rt X := by
  unfold Wn.fitB Wn.rt
  rw [← Bool.decide_and]
  apply decide_eq_decide.2
  omega
theorem isRight_any (X : Wn.W) (a : Option Addr) (c : Nat) (w : World) :
    Calls Tryz.prog 109 #[WV X a c] w fun e w' => e = .returned (.bool (Wn.rt X)) ∧ Below w.heap.size w w' := by
  rw [← Wn.rt_bool]
  exact isRight_go X.md X.sz X.bs a X.l.length c _ _ (mayBe_any _ _ _) rfl w
set_option maxHeartbeats 1000000 in
set_option maxRecDepth 100000 in
theorem numberAt_go (m s b p r : Int) (v : Value) (HO : Hid (∀ w, Calls Tryz.prog 130 #[.int .i64 b, .int .i64 p, .int .i64 m] w fun e w' => e = .returned (.int .i64 r) ∧ w' = w)) (w : World) :
    Calls Tryz.prog 110 #[.agg #[.int .i64 m, .int .i64 s, .int .i64 b, v], .int .i64 p] w fun e w' => e = .returned (.int .i64 r) ∧ Below w.heap.size w w' := by
  go_enter Tryz.func110, Tryz.ntmps110
  go_wp2_with (go_at_call 130; refine (HO.out _).mono ?_; rintro e w2 ⟨rfl, rfl⟩)
  go_ret
  exact ⟨rfl, Rg.al1 _ _⟩
theorem numberAt_any (X : Wn.W) (a : Option Addr) (c p : Nat) (hr : Wn.rt X = true) (hp : p ≤ 1000) (w : World) :
    Calls Tryz.prog 110 #[WV X a c, .int .i64 (p : Int)] w fun e w' => e = .returned (.int .i64 (Wn.num X p)) ∧ Below w.heap.size w w' := by
  obtain ⟨h1, h2, h3, h4, h5, h6, h7⟩ := Wn.rt_parts hr
  exact numberAt_go X.md X.sz X.bs p _ _ (onward_any _ _ _ (by omega) (by omega) (by omega) (by omega) (by omega) (by omega)) w
end Go.Proofs.YtfiffbohhhehkaaGreat

namespace Go.Proofs.YtfiffbohhhehkaaGreat
open Go.RowKit
set_option maxHeartbeats 1000000 in
set_option maxRecDepth 100000 in
theorem placeOf_go (m s b : Int) (a : Option Addr) (n c : Nat) (k A R : Int) (rt ok lo hi : Bool)
    (HR : Hid (∀ w, Calls Tryz.prog 109 #[.agg #[.int .i64 m, .int .i64 s, .int .i64 b, .slice a n c]] w fun e w' => e = .returned (.bool rt) ∧ Below w.heap.size w w'))
    (HA : Hid (∀ w, Calls Tryz.prog 127 #[.int .i64 b, .int .i64 k, .int .i64 m] w fun e w' => e = .returned (.int .i64 A) ∧ w' = w))
    (dl : decide (A < 0) = lo) (dh : decide ((n : Int) ≤ A) = hi) (hok : Hid (ok = (rt && (!lo && !hi)))) (hR : Hid (R = if ok = true then A else 0)) (w : World) :
    Calls Tryz.prog 135 #[.agg #[.int .i64 m, .int .i64 s, .int .i64 b, .slice a n c], .int .i64 k] w fun e w' => e = .returned (.tuple #[.int .i64 R, .bool ok]) ∧ Below w.heap.size w w' := by
  cases rt with
  | false =>
    obtain rfl := hok.out
    obtain rfl := hR.out
    clear hok hR
    go_enter Tryz.func135, Tryz.ntmps135
    go_wp2_with (go_at_call 109; refine (HR.out _).mono ?_; rintro e w2 ⟨rfl, b2⟩)
    go_ret2
    exact ⟨rfl, Rg.chain (Rg.al1 _ _) b2⟩
  | true =>
    cases lo with
    | true =>
      obtain rfl := hok.out
      obtain rfl := hR.out
      clear hok hR
      go_enter Tryz.func135, Tryz.ntmps135
      go_upto_region 3 with (go_at_call 109; refine (HR.out _).mono ?_; rintro e w2 ⟨rfl, b2⟩)
      have k2 := Rg.Bk.below (Rg.Bk.new (C := [.int .i64 m, .int .i64 s, .int .i64 b, .slice a n c]) rfl) b2 (by simp)
      have c0 := k2.cell 0; have c2 := k2.cell 2; have c3 := k2.cell 3
      have b3 := Rg.hid (Rg.chain (Rg.al1 _ _) b2)
      clear k2 b2
      go_wp2_with (go_at_call 127; refine (HA.out _).mono ?_; rintro e w3 ⟨rfl, rfl⟩)
      go_ret2
      exact ⟨rfl, b3.out⟩
    | false =>
      cases hi with
      | true =>
        obtain rfl := hok.out
        obtain rfl := hR.out
        clear hok hR
        go_enter Tryz.func135, Tryz.ntmps135
        go_upto_region 3 with (go_at_call 109; refine (HR.out _).mono ?_; rintro e w2 ⟨rfl, b2⟩)
        have k2 := Rg.Bk.below (Rg.Bk.new (C := [.int .i64 m, .int .i64 s, .int .i64 b, .slice a n c]) rfl) b2 (by simp)
        have c0 := k2.cell 0; have c2 := k2.cell 2; have c3 := k2.cell 3
        have b3 := Rg.hid (Rg.chain (Rg.al1 _ _) b2)
        clear k2 b2
        go_wp2_with (go_at_call 127; refine (HA.out _).mono ?_; rintro e w3 ⟨rfl, rfl⟩)
        go_ret2
        exact ⟨rfl, b3.out⟩
      | false =>
        obtain rfl := hok.out
        obtain rfl := hR.out
        clear hok hR
        go_enter Tryz.func135, Tryz.ntmps135
        go_upto_region 3 with (go_at_call 109; refine (HR.out _).mono ?_; rintro e w2 ⟨rfl, b2⟩)
        have k2 := Rg.Bk.below (Rg.Bk.new (C := [.int .i64 m, .int .i64 s, .int .i64 b, .slice a n c]) rfl) b2 (by simp)
        have c0 := k2.cell 0; have c2 := k2.cell 2; have c3 := k2.cell 3
        have b3 := Rg.hid (Rg.chain (Rg.al1 _ _) b2)
        clear k2 b2
        go_wp2_with (go_at_call 127; refine (HA.out _).mono ?_; rintro e w3 ⟨rfl, rfl⟩)
        go_ret2
        exact ⟨rfl, b3.out⟩
/-- The place of a number, as the program tells it. -/
def Wn.plN (X : Wn.W) (k : Int) : Nat := (Wn.place X k).getD 0
theorem placeOf_any (X : Wn.W) (a : Option Addr) (c : Nat) (k : Int) (w : World) :
    Calls Tryz.prog 135 #[WV X a c, .int .i64 k] w fun e w' => e = .returned (.tuple #[.int .i64 (Wn.plN X k : Int), .bool (Wn.place X k).isSome]) ∧ Below w.heap.size w w' := by
  refine placeOf_go X.md X.sz X.bs a X.l.length c k (Wn.ahead X.bs k X.md) _ (Wn.rt X) _ _ _ (isRight_any X a c) (ahead_any _ _ _) rfl rfl ?_ ?_ w
  · show _ = _
    unfold Wn.place
    split
    · rename_i h
      rw [h.1, decide_eq_false (by omega), decide_eq_false (by omega)]; rfl
    · rename_i h
      cases hr : Wn.rt X with
      | false => rfl
      | true =>
        rcases Int.lt_or_le (Wn.ahead X.bs k X.md) 0 with h0 | h0
        · rw [decide_eq_true h0]; rfl
        · rcases Int.lt_or_le (Wn.ahead X.bs k X.md) X.l.length with h1 | h1
          · exact absurd ⟨hr, h0, h1⟩ h
          · rw [decide_eq_true h1]; simp
  · show _ = _
    unfold Wn.plN Wn.place
    split
    · rename_i h
      simp; omega
    · simp
end Go.Proofs.YtfiffbohhhehkaaGreat

namespace Go.Proofs.YtfiffbohhhehkaaGreat
open Go.RowKit
theorem infoStr : (Tryz.prog.info? 9).map (fun i => (i.zero, i.size, i.bytes)) = some (some (.string ByteArray.empty), 1, 16) := by kernel_rfl
theorem infoStr' : ∃ i0, Tryz.prog.info? 9 = some i0 ∧ i0.zero = some (.string ByteArray.empty) ∧ i0.size = 1 ∧ i0.bytes = 16 := by
  have := infoStr
  cases h : Tryz.prog.info? 9 with
  | none => rw [h] at this; cases this
  | some i => rw [h] at this; simp only [Option.map_some, Option.some.injEq, Prod.mk.injEq] at this; exact ⟨i, rfl, this.1, this.2.1, this.2.2⟩
theorem app_nil {P : Program} {t e ty : TypeId} {i : TypeInfo} (ht : P.underlying t = some (.slice e)) (hi : P.info? e = some i) (g n cap : Nat) (hle : n ≤ cap) (a : Option Addr) (c : Nat) (W : World) :
    (Builtin.append_ #[t, t] ty #[.slice (some ⟨g, 0, none⟩) n cap, .slice a 0 c]).run P W = .ok (.slice (some ⟨g, 0, none⟩) n cap) W := by
  cases a <;> simp [Builtin.append_, run_underlying ht, sizeOf, typeInfo, hi, Builtin.lenOf, Builtin.firstCells, storeCells, loadCells, loadCellsFrom, hle]
theorem own_nil (W : World) : strE.Own W.heap.size (W.alloc (.cells #[] 9)) W.heap.size 0 [] [] := ⟨Rg.Bk.new (C := []) rfl, Nat.le_refl _, Nat.le_refl _, Nat.zero_le _, by simp⟩
/-- append of texts to a row of one's own -/
theorem app_texts {base g cap : Nat} {W : World} {l : List ByteArray} {rest : List Value} (h : strE.Own base W g cap l rest) (l2 : List ByteArray) (a : Option Addr) (c : Nat) (hr : SRow W a l2) (hB : base ≤ W.heap.size) (hn : l.length + l2.length ≤ 1000000) :
    ∃ g' cap' rest' W', (Builtin.append_ #[22, 22] 22 #[.slice (some ⟨g, 0, none⟩) l.length cap, .slice a l2.length c]).run Tryz.prog W = .ok (.slice (some ⟨g', 0, none⟩) (l.length + l2.length) cap') W' ∧ strE.Own base W' g' cap' (l ++ l2) rest' ∧ Below base W W' ∧ (∀ k, k < W.heap.size → k ≠ g → W'.heap[k]? = W.heap[k]?) := by
  obtain ⟨i0, hi, hz0, hz1, hz2⟩ := infoStr'
  rcases hr with rfl | ⟨b, o, rfl, hb, hat⟩
  · exact ⟨g, cap, rest, W, app_nil Tryz.underlying22 hi g l.length cap h.le a c W, by rw [List.append_nil]; exact h, Below.refl _ _, fun _ _ _ => rfl⟩
  · obtain ⟨g', cap', rest', W', h1, h2, h3, h4, _⟩ := h.appendRow (P := Tryz.prog) l2 22 22 i0 _ 16 Tryz.underlying22 hi hz0 hz1 hz2 rfl (some ⟨b, o, none⟩) c (.inr ⟨b, o, rfl, hb, hat⟩) hB (by omega) (by unfold maxLen; omega)
    exact ⟨g', cap', rest', W', h1, h2, h3, h4⟩
/-- an address of a block that w has not -/
def New (w : World) (a : Option Addr) : Prop := ∀ b o, a = some ⟨b, o, none⟩ → w.heap.size ≤ b
theorem New.nil {w : World} : New w none := fun _ _ h => by cases h
theorem New.blk {w : World} {g o : Nat} (h : w.heap.size ≤ g) : New w (some ⟨g, o, none⟩) := fun _ _ e => by cases e; exact h
theorem New.mono {w w' : World} {a : Option Addr} (h : New w' a) (hs : w.heap.size ≤ w'.heap.size) : New w a := fun b o e => Nat.le_trans hs (h b o e)
/-- slices.Clone of texts -/
theorem clone_any (a : Option Addr) (c : Nat) (l : List ByteArray) (w : World) (hl : l.length ≤ 1000000) (hr : SRow w a l) :
    Calls Tryz.prog 136 #[.slice a l.length c] w fun e w' => ∃ a' c', e = .returned (.slice a' l.length c') ∧ SRow w' a' l ∧ l.length ≤ c' ∧ Below w.heap.size w w' ∧ New w a' := by
  cases l with
  | nil =>
    cases a with
    | none => exact (Tryz.slices_Clone_string_nil 0 c w).mono fun e w' ⟨h1, h2⟩ => ⟨none, 0, h1, .inl rfl, Nat.le_refl _, by rw [h2]; exact Below.refl _ _, .nil⟩
    | some ad =>
      refine (Tryz.slices_Clone_string_zero ad c w).mono fun e w' ⟨v', h1, h2, h3, h4⟩ => ?_
      obtain ⟨g, cap, rest, e2, h5⟩ := Rg.El.Own.of (E := strE) (l := []) h2 h3 rfl
      exact ⟨some ⟨g, 0, none⟩, cap, by rw [h1, e2], .inl rfl, h5.le, h4, .blk h5.new⟩
  | cons x l =>
    obtain ⟨b, o, rfl, hb, hat, _⟩ := hr.cell (i := 0) (by simp)
    refine (Tryz.slices_Clone_string b o (x :: l).length c (x :: l) w (Nat.le_refl _) (by omega) (fun j hj => by
      rw [str_at hat hj, List.getD_eq_getElem?_getD, List.getElem?_eq_getElem hj]; rfl)).mono fun e w' ⟨v', h1, h2, h3, h4⟩ => ?_
    rw [List.take_length, ← str_flat] at h2
    obtain ⟨g, cap, rest, e2, h5⟩ := Rg.El.Own.of (E := strE) h2 h3 rfl
    exact ⟨some ⟨g, 0, none⟩, cap, by rw [h1, e2], SRow.of h5.toRow, h5.le, h4, .blk h5.new⟩
def gr_ren : Go.Shelf.Ren := ⟨fun | 4 => 131 | n => n, fun | 22 => 22 | 25 => 9 | 3 => 3 | 4 => 4 | 0 => 0 | 9 => 9 | 20 => 20 | n => n, fun | n => n⟩
theorem grLays : Go.Proofs.Lays8.n4 Tryz.prog gr_ren := {
  mixed := by kernel_rfl
  f4 := ⟨Tryz.f131.name, by decide, Tryz.func131.trans (congrArg some (by kernel_rfl))⟩
  t0 := Tryz.underlying0
  a0 := Tryz.isAgg0
  z0 := Tryz.sizeOf0
  v0 := Tryz.zeroValue0
  t3 := Tryz.underlying3
  a3 := Tryz.isAgg3
  z3 := Tryz.sizeOf3
  v3 := Tryz.zeroValue3
  t4 := Tryz.underlying4
  a4 := Tryz.isAgg4
  z4 := Tryz.sizeOf4
  v4 := Tryz.zeroValue4
  t9 := Tryz.underlying9
  a9 := Tryz.isAgg9
  z9 := Tryz.sizeOf9
  v9 := Tryz.zeroValue9
  t20 := Tryz.underlying20
  a20 := Tryz.isAgg20
  z20 := Tryz.sizeOf20
  v20 := Tryz.zeroValue20
  t22 := Tryz.underlying22
  a22 := Tryz.isAgg22
  z22 := Tryz.sizeOf22
  v22 := Tryz.zeroValue22 }
/-- slices.Grow of nothing -/
theorem grow_any (n : Nat) (hn : 1 ≤ n) (hn2 : n ≤ 100000) (w : World) :
    Calls Tryz.prog 131 #[.slice none 0 0, .int .i64 (n : Int)] w fun e w' => ∃ g cap rest, e = .returned (.slice (some ⟨g, 0, none⟩) 0 cap) ∧ strE.Own w.heap.size w' g cap [] rest ∧ Below w.heap.size w w' := by
  obtain ⟨i0, hi, hz0, hz1, hz2⟩ := infoStr'
  refine (Go.Proofs.Any8.slices_Grow_grow grLays i0 _ hi hz0 (by omega) none 0 0 n [] w (Nat.le_refl _) (by omega) (by rw [hz2]; omega) (by omega) (by simp) (fun _ => rfl) (fun a h => by cases h)).mono fun e w' ⟨h1, h2⟩ => ?_
  subst h1 h2
  have hge := grownCap_ge w (0 + n) 0 9
  have hcm : grownCap w (0 + n) 0 9 ≤ maxLen := grownCap_le_maxLen w (0 + n) 0 9 (by unfold maxLen; omega)
  have et : gr_ren.t 25 = 9 := rfl
  rw [et]
  generalize grownCap w (0 + n) 0 9 = G at *
  refine ⟨w.heap.size, G, (Builtin.zeroCells (Value.string ByteArray.empty).cells (0 + n - 0) ++ Builtin.zeroCells (Value.string ByteArray.empty).cells (G - (0 + n))).toList, rfl, ⟨?_, Nat.le_refl _, Nat.zero_le _, hcm, ?_⟩, ⟨rfl, rfl, rfl, by simp, fun k hk => Below.heap_alloc w.drew _ k hk⟩⟩
  · rw [show w.heap.size = w.drew.heap.size from rfl, heap_alloc_new]
    refine congrArg (fun x => some (Obj.cells x _ (0, 0))) ?_
    apply Array.ext'
    simp [strE, Rg.El.flat]
  · have hzl : ∀ n, (Builtin.zeroCells (Value.string ByteArray.empty).cells n).size = n * 1 := fun n => by rw [size_zeroCells]; rfl
    rw [strE.flat_nil, List.nil_append, Array.length_toList, Array.size_append, hzl, hzl]
    show G * 1 ≤ _
    omega
/-- what a concatenation has summed up, and has gathered, behind i of the two rows -/
def Wn.cs (n i : Nat) : Nat := if i = 0 then 0 else if i = 1 then n else n + 1
def Wn.cl (l : List ByteArray) (x : ByteArray) (i : Nat) : List ByteArray := if i = 0 then [] else if i = 1 then l else l ++ [x]
theorem Wn.cl_len (l : List ByteArray) (x : ByteArray) (i : Nat) : (Wn.cl l x i).length = Wn.cs l.length i := by
  unfold Wn.cl Wn.cs
  split
  · rfl
  · split <;> simp
/-- one append of a concatenation -/
theorem cat_step {base g cap i : Nat} {W : World} {l l2 : List ByteArray} {x : ByteArray} {rest : List Value} (h : strE.Own base W g cap (Wn.cl l x i) rest) (n M M2 : Nat) (hn : n = l.length) (hM : M = Wn.cs n i) (a : Option Addr) (c : Nat) (hr : SRow W a l2) (hM2 : M2 = l2.length) (h2 : Wn.cl l x i ++ l2 = Wn.cl l x (i + 1)) (hB : base ≤ W.heap.size) (hn2 : n ≤ 1000) (w : World) (hbw : Below base w W) :
    ∃ g' cap' rest' W', (Builtin.append_ #[22, 22] 22 #[.slice (some ⟨g, 0, none⟩) M cap, .slice a M2 c]).run Tryz.prog W = .ok (.slice (some ⟨g', 0, none⟩) (Wn.cs n (i + 1)) cap') W' ∧ Hid (strE.Own base W' g' cap' (Wn.cl l x (i + 1)) rest') ∧ Below base w W' := by
  subst hn hM hM2
  have e := congrArg List.length h2
  rw [List.length_append, Wn.cl_len, Wn.cl_len] at e
  have hcs : ∀ j, Wn.cs l.length j ≤ l.length + 1 := fun j => by unfold Wn.cs; split <;> (try split) <;> omega
  have := hcs (i + 1)
  obtain ⟨g', cap', rest', W', h1, h3, h4, _⟩ := app_texts h l2 a c hr hB (by rw [Wn.cl_len]; omega)
  rw [Wn.cl_len, e] at h1
  rw [h2] at h3
  exact ⟨g', cap', rest', W', h1, h3, hbw.trans h4⟩
set_option maxHeartbeats 2000000 in
set_option maxRecDepth 100000 in
theorem concat_any (l : List ByteArray) (n N1 : Nat) (hnl : Hid (n = l.length)) (hN1 : Hid (N1 = n + 1)) (hn : n ≤ 1000) (x : ByteArray) (a : Option Addr) (c B g : Nat) (w : World) (hr : Hid (SRow w a l)) (kB : Rg.Bk B [.slice a n c, .slice (some ⟨g, 0, none⟩) 1 1] 22 w) (kg : Hid (Rg.Bk g [.string x] 9 w)) :
    Calls Tryz.prog 111 #[.slice (some ⟨B, 0, none⟩) 2 2] w fun e w' => ∃ g' cap, e = .returned (.slice (some ⟨g', 0, none⟩) N1 cap) ∧ Hid (SRow w' (some ⟨g', 0, none⟩) (l ++ [x])) ∧ Hid (N1 ≤ cap) ∧ Below w.heap.size w w' ∧ Hid (w.heap.size ≤ g') := by
  have c0 : w.cell? ⟨B, 0, none⟩ = some (.slice a n c) := kB.cell 0
  have c1 : w.cell? ⟨B, 1, none⟩ = some (.slice (some ⟨g, 0, none⟩) 1 1) := kB.cell 1
  have kB' := Rg.hid kB
  have HG : Hid (∀ W, Calls Tryz.prog 131 #[.slice none 0 0, .int .i64 (N1 : Int)] W fun e w' => ∃ g cap rest, e = .returned (.slice (some ⟨g, 0, none⟩) 0 cap) ∧ Hid (strE.Own W.heap.size w' g cap [] rest) ∧ Below W.heap.size W w') := by
    rw [hN1.out]; exact grow_any (n + 1) (by omega) (by omega)
  have q0 : wrap64 ((n : Int) + 1) = (N1 : Int) := by rw [hN1.out]; unfold wrap64; omega
  have q1 : wrap64 (n : Int) = (n : Int) := by unfold wrap64; omega
  have d0 : decide ((n : Int) < 0) = false := by simp
  have d1 : decide ((N1 : Int) < 0) = false := by simp
  have e0 : Wn.cs n 0 = 0 := rfl
  have e1 : Wn.cs n 1 = n := rfl
  have e2 : Wn.cs n 2 = N1 := hN1.out.symm
  replace e0 := Rg.hid e0; replace e1 := Rg.hid e1; replace e2 := Rg.hid e2
  have hn' := Rg.hid hn
  clear kB hn
  go_enter Tryz.func111, Tryz.ntmps111
  go_wp2
  go_loopw [3, 11] (fun vs vi wr => wr = w ∧ ∃ i : Nat, i ≤ 2 ∧ vi = .int .i64 i ∧ vs = .int .i64 (Wn.cs n i : Nat)) (fun _ vi _ => 2 - (intOf vi).toNat)
  case atStart => exact ⟨rfl, 0, by omega, rfl, rfl⟩
  case round =>
    obtain ⟨hww, i, hi2, rfl, rfl⟩ := hrel
    obtain rfl := hww.symm
    obtain rfl | rfl | rfl : i = 0 ∨ i = 1 ∨ i = 2 := by omega
    · rw [e0.out]
      go_wp2
      go_roundw
      case rel => exact ⟨trivial, 1, by omega, rfl, by simp [e1.out, q1]⟩
      case measure => simp [intOf]
    · rw [e1.out]
      go_wp2
      go_roundw
      case rel => exact ⟨trivial, 2, by omega, rfl, by simp [e2.out, q0]⟩
      case measure => simp [intOf]
    · rw [e2.out]
      go_wp2_with (go_at_call 131; refine (HG.out _).mono ?_; rintro e w2 ⟨G, cap, rest, rfl, hO, b2⟩)
      go_loopw [6, 27] (fun vl vi wx => ∃ (i g' cap' : Nat) (rest' : List Value), i ≤ 2 ∧ vi = .int .i64 i ∧ vl = .slice (some ⟨g', 0, none⟩) (Wn.cs n i) cap' ∧ Hid (strE.Own w.heap.size wx g' cap' (Wn.cl l x i) rest') ∧ Below w.heap.size w wx) (fun _ vi _ => 2 - (intOf vi).toNat)
      case atStart => exact ⟨0, G, cap, rest, by omega, rfl, by rw [e0.out], hO, b2⟩
      case round =>
        obtain ⟨i, g', cap', rest', hi2, rfl, rfl, hO2, bx⟩ := hrel
        have hr' := hr.out.below bx
        have kg' := kg.out.below bx kg.out.lt
        have kB2 := kB'.out.below bx kB'.out.lt
        have c0' : wr.cell? ⟨B, 0, none⟩ = some (.slice a n c) := kB2.cell 0
        have c1' : wr.cell? ⟨B, 1, none⟩ = some (.slice (some ⟨g, 0, none⟩) 1 1) := kB2.cell 1
        clear kB2
        obtain rfl | rfl | rfl : i = 0 ∨ i = 1 ∨ i = 2 := by omega
        · obtain ⟨g2, cap2, rest2, W2, hap, hO3, b3⟩ := cat_step hO2.out n 0 n hnl.out e0.out.symm a c hr' hnl.out rfl bx.size hn'.out w bx
          replace hap := Rg.hid hap
          rw [e0.out]
          clear hr' kg'
          go_wp2_with (at_builtin; refine Rg.wpList_append_run rfl (.tmp 31) (.tmp 32) 22 rfl _ _ rfl rfl _ _ hap.out ?_)
          go_roundw
          case rel => exact ⟨1, g2, cap2, rest2, by omega, rfl, rfl, hO3, b3⟩
          case measure => simp [intOf]
        · have h1 : SRow wr (some ⟨g, 0, none⟩) [x] := .inr ⟨g, 0, rfl, kg'.lt, fun t u ht => by rw [Nat.zero_add, kg'.cell]; exact ht⟩
          obtain ⟨g2, cap2, rest2, W2, hap, hO3, b3⟩ := cat_step hO2.out n n 1 hnl.out e1.out.symm (some ⟨g, 0, none⟩) 1 h1 rfl rfl bx.size hn'.out w bx
          replace hap := Rg.hid hap
          rw [e1.out]
          clear hr' kg' h1
          go_wp2_with (at_builtin; refine Rg.wpList_append_run rfl (.tmp 31) (.tmp 32) 22 rfl _ _ rfl rfl _ _ hap.out ?_)
          go_roundw
          case rel => exact ⟨2, g2, cap2, rest2, by omega, rfl, rfl, hO3, b3⟩
          case measure => simp [intOf]
        · have hle : Hid (N1 ≤ cap') := by
            have := hO2.out.le
            rw [Wn.cl_len, ← hnl.out, e2.out] at this
            exact this
          have hrow : Hid (SRow wr (some ⟨g', 0, none⟩) (l ++ [x])) := SRow.of hO2.out.toRow
          have hnew : Hid (w.heap.size ≤ g') := hO2.out.new
          rw [e2.out]
          clear hr' kg'
          go_wp2
          go_ret
          exact ⟨g', cap', rfl, hrow, hle, bx, hnew⟩
end Go.Proofs.YtfiffbohhhehkaaGreat

namespace Go.Proofs.YtfiffbohhhehkaaGreat
open Go.RowKit
theorem Rg.ret4 {b : Nat} {C : List Value} {ty : TypeId} {W : World} (h : Bk b C ty W) (hC : C.length = 4) (v0 v1 v2 v3 : Value) :
    Bk b [v0, v1, v2, v3] ty ((((W.setCell ⟨b, 0, none⟩ v0).setCell ⟨b, 1, none⟩ v1).setCell ⟨b, 2, none⟩ v2).setCell ⟨b, 3, none⟩ v3) ∧ Only b W ((((W.setCell ⟨b, 0, none⟩ v0).setCell ⟨b, 1, none⟩ v1).setCell ⟨b, 2, none⟩ v2).setCell ⟨b, 3, none⟩ v3) := by
  have k := (((h.set 0 v0).set 1 v1).set 2 v2).set 3 v3
  match C, hC with
  | [_, _, _, _], _ => exact ⟨k, (((Only.setCell W b 0 v0).trans (Only.setCell _ b 1 v1)).trans (Only.setCell _ b 2 v2)).trans (Only.setCell _ b 3 v3)⟩
/-- a call that says whether a window is right -/
def RightsAt (F : Nat) (m s b : Int) (a : Option Addr) (n c : Nat) (r : Bool) : Prop := ∀ W, Calls Tryz.prog F #[.agg #[.int .i64 m, .int .i64 s, .int .i64 b, .slice a n c]] W fun e w' => e = .returned (.bool r) ∧ Below W.heap.size W w'
set_option maxHeartbeats 2000000 in
set_option maxRecDepth 100000 in
theorem put_wrong (m s b : Int) (a : Option Addr) (n c : Nat) (x : ByteArray) (w : World) (HR : RightsAt 109 m s b a n c false) :
    Calls Tryz.prog 82 #[.agg #[.int .i64 m, .int .i64 s, .int .i64 b, .slice a n c], .string x] w fun e w' => e = .returned (.tuple #[.agg #[.int .i64 m, .int .i64 s, .int .i64 b, .slice a n c], .int .i64 0, .int .i64 1]) ∧ Below w.heap.size w w' := by
  have kB1 : Hid (Rg.Bk w.heap.size [.int .i64 m, .int .i64 s, .int .i64 b, .slice a n c] 24 ((w.alloc (.cells #[.int .i64 m, .int .i64 s, .int .i64 b, .slice a n c] 24)).alloc (.cells #[.int .i64 0, .int .i64 0, .int .i64 0, .slice none 0 0] 24))) := (Rg.Bk.new rfl).old _
  have kR1 : Hid (Rg.Bk (w.heap.size + 1) [.int .i64 0, .int .i64 0, .int .i64 0, .slice none 0 0] 24 ((w.alloc (.cells #[.int .i64 m, .int .i64 s, .int .i64 b, .slice a n c] 24)).alloc (.cells #[.int .i64 0, .int .i64 0, .int .i64 0, .slice none 0 0] 24))) := Rg.Bk.new (by simp)
  have hb1 := Rg.hid (Rg.al2 w (.cells #[.int .i64 m, .int .i64 s, .int .i64 b, .slice a n c] 24) (.cells #[.int .i64 0, .int .i64 0, .int .i64 0, .slice none 0 0] 24))
  go_enter Tryz.func82, Tryz.ntmps82
  go_upto_region 1 with fail
  generalize World.alloc _ _ = w1 at *
  obtain ⟨B, hB⟩ : ∃ B, B = w.heap.size := ⟨_, rfl⟩
  obtain ⟨R, hR⟩ : ∃ R, R = w.heap.size + 1 := ⟨_, rfl⟩
  rw [← hR] at kR1 ⊢
  rw [← hB] at kB1 ⊢
  have hBR : B ≠ R := by omega
  have hBw : w.heap.size ≤ B := by omega
  have hRw : w.heap.size ≤ R := by omega
  clear hB hR
  have z0 : w1.cell? ⟨B, 0, none⟩ = some (.int .i64 m) := kB1.out.cell 0
  have z1 : w1.cell? ⟨B, 1, none⟩ = some (.int .i64 s) := kB1.out.cell 1
  have z2 : w1.cell? ⟨B, 2, none⟩ = some (.int .i64 b) := kB1.out.cell 2
  have z3 : w1.cell? ⟨B, 3, none⟩ = some (.slice a n c) := kB1.out.cell 3
  go_upto_region 2 with (go_at_call 109; refine (HR _).mono ?_; rintro e w2 ⟨rfl, b2⟩)
  have kB2 := kB1.out.below b2 kB1.out.lt
  have kR2 := kR1.out.below b2 kR1.out.lt
  have hb2 := Rg.chain hb1.out b2
  clear z0 z1 z2 z3 kB1 kR1 hb1 HR
  obtain ⟨kE, oE⟩ := Rg.ret4 kR2 rfl (.int .i64 m) (.int .i64 s) (.int .i64 b) (.slice a n c)
  have hb4 := Rg.hid (hb2.trans (oE.bel hRw))
  have z0 : w2.cell? ⟨B, 0, none⟩ = some (.int .i64 m) := kB2.cell 0
  have z1 : w2.cell? ⟨B, 1, none⟩ = some (.int .i64 s) := kB2.cell 1
  have z2 : w2.cell? ⟨B, 2, none⟩ = some (.int .i64 b) := kB2.cell 2
  have z3 : w2.cell? ⟨B, 3, none⟩ = some (.slice a n c) := kB2.cell 3
  have r0 : w2.cell? ⟨R, 0, none⟩ = some (.int .i64 0) := kR2.cell 0
  have r1 : w2.cell? ⟨R, 1, none⟩ = some (.int .i64 0) := kR2.cell 1
  have r2 : w2.cell? ⟨R, 2, none⟩ = some (.int .i64 0) := kR2.cell 2
  have r3 : w2.cell? ⟨R, 3, none⟩ = some (.slice none 0 0) := kR2.cell 3
  have rf := kR2.thaw
  replace kE := Rg.hid kE
  clear oE kB2 kR2 b2 hb2
  go_wp2
  replace kE := kE.out
  replace hb4 := hb4.out
  generalize World.setCell _ _ _ = WE at *
  exact bodyPost_ret (v := .tuple #[.agg #[.int .i64 m, .int .i64 s, .int .i64 b, .slice a n c], .int .i64 0, .int .i64 1]) (by simp [results, Tryz.results82, go_sem, kE.cell]) rfl ⟨rfl, hb4⟩
set_option maxHeartbeats 2000000 in
set_option maxRecDepth 100000 in
theorem put_full (m s b : Int) (a : Option Addr) (n c : Nat) (x : ByteArray) (w : World) (HR : RightsAt 109 m s b a n c true) (hf : ((n : Int) == s) = true) :
    Calls Tryz.prog 82 #[.agg #[.int .i64 m, .int .i64 s, .int .i64 b, .slice a n c], .string x] w fun e w' => e = .returned (.tuple #[.agg #[.int .i64 m, .int .i64 s, .int .i64 b, .slice a n c], .int .i64 0, .int .i64 8]) ∧ Below w.heap.size w w' := by
  have kB1 : Hid (Rg.Bk w.heap.size [.int .i64 m, .int .i64 s, .int .i64 b, .slice a n c] 24 ((w.alloc (.cells #[.int .i64 m, .int .i64 s, .int .i64 b, .slice a n c] 24)).alloc (.cells #[.int .i64 0, .int .i64 0, .int .i64 0, .slice none 0 0] 24))) := (Rg.Bk.new rfl).old _
  have kR1 : Hid (Rg.Bk (w.heap.size + 1) [.int .i64 0, .int .i64 0, .int .i64 0, .slice none 0 0] 24 ((w.alloc (.cells #[.int .i64 m, .int .i64 s, .int .i64 b, .slice a n c] 24)).alloc (.cells #[.int .i64 0, .int .i64 0, .int .i64 0, .slice none 0 0] 24))) := Rg.Bk.new (by simp)
  have hb1 := Rg.hid (Rg.al2 w (.cells #[.int .i64 m, .int .i64 s, .int .i64 b, .slice a n c] 24) (.cells #[.int .i64 0, .int .i64 0, .int .i64 0, .slice none 0 0] 24))
  go_enter Tryz.func82, Tryz.ntmps82
  go_upto_region 1 with fail
  generalize World.alloc _ _ = w1 at *
  obtain ⟨B, hB⟩ : ∃ B, B = w.heap.size := ⟨_, rfl⟩
  obtain ⟨R, hR⟩ : ∃ R, R = w.heap.size + 1 := ⟨_, rfl⟩
  rw [← hR] at kR1 ⊢
  rw [← hB] at kB1 ⊢
  have hBR : B ≠ R := by omega
  have hBw : w.heap.size ≤ B := by omega
  have hRw : w.heap.size ≤ R := by omega
  clear hB hR
  have z0 : w1.cell? ⟨B, 0, none⟩ = some (.int .i64 m) := kB1.out.cell 0
  have z1 : w1.cell? ⟨B, 1, none⟩ = some (.int .i64 s) := kB1.out.cell 1
  have z2 : w1.cell? ⟨B, 2, none⟩ = some (.int .i64 b) := kB1.out.cell 2
  have z3 : w1.cell? ⟨B, 3, none⟩ = some (.slice a n c) := kB1.out.cell 3
  go_upto_region 3 with (go_at_call 109; refine (HR _).mono ?_; rintro e w2 ⟨rfl, b2⟩)
  have kB2 := kB1.out.below b2 kB1.out.lt
  have kR2 := kR1.out.below b2 kR1.out.lt
  have hb2 := Rg.chain hb1.out b2
  clear z0 z1 z2 z3 kB1 kR1 hb1 HR
  obtain ⟨kE, oE⟩ := Rg.ret4 kR2 rfl (.int .i64 m) (.int .i64 s) (.int .i64 b) (.slice a n c)
  have hb4 := Rg.hid (hb2.trans (oE.bel hRw))
  have z0 : w2.cell? ⟨B, 0, none⟩ = some (.int .i64 m) := kB2.cell 0
  have z1 : w2.cell? ⟨B, 1, none⟩ = some (.int .i64 s) := kB2.cell 1
  have z2 : w2.cell? ⟨B, 2, none⟩ = some (.int .i64 b) := kB2.cell 2
  have z3 : w2.cell? ⟨B, 3, none⟩ = some (.slice a n c) := kB2.cell 3
  have r0 : w2.cell? ⟨R, 0, none⟩ = some (.int .i64 0) := kR2.cell 0
  have r1 : w2.cell? ⟨R, 1, none⟩ = some (.int .i64 0) := kR2.cell 1
  have r2 : w2.cell? ⟨R, 2, none⟩ = some (.int .i64 0) := kR2.cell 2
  have r3 : w2.cell? ⟨R, 3, none⟩ = some (.slice none 0 0) := kR2.cell 3
  have rf := kR2.thaw
  replace kE := Rg.hid kE
  clear oE kB2 kR2 b2 hb2
  go_wp2
  replace kE := kE.out
  replace hb4 := hb4.out
  generalize World.setCell _ _ _ = WE at *
  exact bodyPost_ret (v := .tuple #[.agg #[.int .i64 m, .int .i64 s, .int .i64 b, .slice a n c], .int .i64 0, .int .i64 8]) (by simp [results, Tryz.results82, go_sem, kE.cell]) rfl ⟨rfl, hb4⟩
set_option maxHeartbeats 4000000 in
set_option maxRecDepth 100000 in
theorem put_right (m s b N : Int) (a : Option Addr) (n N1 c : Nat) (x : ByteArray) (l : List ByteArray) (w : World) (HR : RightsAt 109 m s b a n c true) (hf : ((n : Int) == s) = false)
    (HN : Hid (∀ W, Calls Tryz.prog 110 #[.agg #[.int .i64 m, .int .i64 s, .int .i64 b, .slice a n c], .int .i64 (n : Int)] W fun e w' => e = .returned (.int .i64 N) ∧ Below W.heap.size W w'))
    (HC : Hid (∀ W B g, SRow W a l → Rg.Bk B [.slice a n c, .slice (some ⟨g, 0, none⟩) 1 1] 22 W → Rg.Bk g [.string x] 9 W → Calls Tryz.prog 111 #[.slice (some ⟨B, 0, none⟩) 2 2] W fun e w' => ∃ g' cap, e = .returned (.slice (some ⟨g', 0, none⟩) N1 cap) ∧ Hid (SRow w' (some ⟨g', 0, none⟩) (l ++ [x])) ∧ Hid (N1 ≤ cap) ∧ Below W.heap.size W w' ∧ Hid (W.heap.size ≤ g')))
    (hrow : Hid (SRow w a l)) :
    Calls Tryz.prog 82 #[.agg #[.int .i64 m, .int .i64 s, .int .i64 b, .slice a n c], .string x] w fun e w' => ∃ g cap, e = .returned (.tuple #[.agg #[.int .i64 m, .int .i64 s, .int .i64 b, .slice (some ⟨g, 0, none⟩) N1 cap], .int .i64 N, .int .i64 0]) ∧ Hid (SRow w' (some ⟨g, 0, none⟩) (l ++ [x])) ∧ Hid (N1 ≤ cap) ∧ Below w.heap.size w w' ∧ Hid (w.heap.size ≤ g) := by
  have kB1 : Hid (Rg.Bk w.heap.size [.int .i64 m, .int .i64 s, .int .i64 b, .slice a n c] 24 ((w.alloc (.cells #[.int .i64 m, .int .i64 s, .int .i64 b, .slice a n c] 24)).alloc (.cells #[.int .i64 0, .int .i64 0, .int .i64 0, .slice none 0 0] 24))) := (Rg.Bk.new rfl).old _
  have kR1 : Hid (Rg.Bk (w.heap.size + 1) [.int .i64 0, .int .i64 0, .int .i64 0, .slice none 0 0] 24 ((w.alloc (.cells #[.int .i64 m, .int .i64 s, .int .i64 b, .slice a n c] 24)).alloc (.cells #[.int .i64 0, .int .i64 0, .int .i64 0, .slice none 0 0] 24))) := Rg.Bk.new (by simp)
  have hb1 := Rg.hid (Rg.al2 w (.cells #[.int .i64 m, .int .i64 s, .int .i64 b, .slice a n c] 24) (.cells #[.int .i64 0, .int .i64 0, .int .i64 0, .slice none 0 0] 24))
  go_enter Tryz.func82, Tryz.ntmps82
  go_upto_region 1 with fail
  generalize World.alloc _ _ = w1 at *
  obtain ⟨B, hB⟩ : ∃ B, B = w.heap.size := ⟨_, rfl⟩
  obtain ⟨R, hR⟩ : ∃ R, R = w.heap.size + 1 := ⟨_, rfl⟩
  rw [← hR] at kR1 ⊢
  rw [← hB] at kB1 ⊢
  have hBR : B ≠ R := by omega
  have hBw : w.heap.size ≤ B := by omega
  have hRw : w.heap.size ≤ R := by omega
  clear hB hR
  have z0 : w1.cell? ⟨B, 0, none⟩ = some (.int .i64 m) := kB1.out.cell 0
  have z1 : w1.cell? ⟨B, 1, none⟩ = some (.int .i64 s) := kB1.out.cell 1
  have z2 : w1.cell? ⟨B, 2, none⟩ = some (.int .i64 b) := kB1.out.cell 2
  have z3 : w1.cell? ⟨B, 3, none⟩ = some (.slice a n c) := kB1.out.cell 3
  go_upto_region 3 with (go_at_call 109; refine (HR _).mono ?_; rintro e w2 ⟨rfl, b2⟩)
  have kB2 := kB1.out.below b2 kB1.out.lt
  have kR2 := Rg.hid (kR1.out.below b2 kR1.out.lt)
  have hb2 := Rg.hid (Rg.chain hb1.out b2)
  clear z0 z1 z2 z3 kB1 kR1 hb1 HR b2
  have z0 : w2.cell? ⟨B, 0, none⟩ = some (.int .i64 m) := kB2.cell 0
  have z1 : w2.cell? ⟨B, 1, none⟩ = some (.int .i64 s) := kB2.cell 1
  have z2 : w2.cell? ⟨B, 2, none⟩ = some (.int .i64 b) := kB2.cell 2
  have z3 : w2.cell? ⟨B, 3, none⟩ = some (.slice a n c) := kB2.cell 3
  replace kB2 := Rg.hid kB2
  go_upto_region 6 with (go_at_call 110; refine (HN.out _).mono ?_; rintro e w3 ⟨rfl, b3⟩)
  have kB3 := kB2.out.below b3 kB2.out.lt
  have kR3 := Rg.hid (kR2.out.below b3 kR2.out.lt)
  have hb3 := Rg.hid (Rg.chain hb2.out b3)
  clear z0 z1 z2 z3 kB2 kR2 hb2 HN b3
  have z0 : w3.cell? ⟨B, 0, none⟩ = some (.int .i64 m) := kB3.cell 0
  have z1 : w3.cell? ⟨B, 1, none⟩ = some (.int .i64 s) := kB3.cell 1
  have z2 : w3.cell? ⟨B, 2, none⟩ = some (.int .i64 b) := kB3.cell 2
  have z3 : w3.cell? ⟨B, 3, none⟩ = some (.slice a n c) := kB3.cell 3
  have hr3 := Rg.hid (hrow.out.below hb3.out)
  have rfB := kB3.thaw
  have kL := Rg.hid (Rg.al2 w3 (.cells #[.string x] 9) (.cells #[.slice a n c, .slice (some ⟨w3.heap.size, 0, none⟩) 1 1] 22))
  have HC3 : Hid (Calls Tryz.prog 111 #[.slice (some ⟨w3.heap.size + 1, 0, none⟩) 2 2] ((w3.alloc (.cells #[.string x] 9)).alloc (.cells #[.slice a n c, .slice (some ⟨w3.heap.size, 0, none⟩) 1 1] 22)) fun e w' => ∃ g' cap, e = .returned (.slice (some ⟨g', 0, none⟩) N1 cap) ∧ Hid (w.heap.size ≤ g') ∧ Hid (N1 ≤ cap) ∧ Hid (SRow (w'.setCell ⟨B, 3, none⟩ (.slice (some ⟨g', 0, none⟩) N1 cap)) (some ⟨g', 0, none⟩) (l ++ [x])) ∧ w'.cell? ⟨B, 3, none⟩ = some (.slice a n c) ∧ (∀ i, w'.frozen? ⟨B, i, none⟩ = false) ∧ Hid (Rg.Bk B [.int .i64 m, .int .i64 s, .int .i64 b, .slice (some ⟨g', 0, none⟩) N1 cap] 24 (w'.setCell ⟨B, 3, none⟩ (.slice (some ⟨g', 0, none⟩) N1 cap))) ∧ Hid (Rg.Bk R [.int .i64 0, .int .i64 0, .int .i64 0, .slice none 0 0] 24 (w'.setCell ⟨B, 3, none⟩ (.slice (some ⟨g', 0, none⟩) N1 cap))) ∧ Hid (Below w.heap.size w (w'.setCell ⟨B, 3, none⟩ (.slice (some ⟨g', 0, none⟩) N1 cap)))) :=
    (HC.out _ (w3.heap.size + 1) w3.heap.size (hr3.out.below kL.out) (Rg.Bk.new (by simp)) ((Rg.Bk.new rfl).old _)).mono fun e w' ⟨g', cap, h1, h2, h3, h4, h6⟩ => by
      have h5 := Rg.chain kL.out h4
      have k5 := kB3.below h5 kB3.lt
      have r5 := kR3.out.below h5 kR3.out.lt
      have o5 := Rg.Only.setCell w' B 3 (.slice (some ⟨g', 0, none⟩) N1 cap)
      exact ⟨g', cap, h1, Nat.le_trans (Rg.chain hb3.out kL.out).size h6.out, h3, h2.out.only k5 (fun x h => by cases h) o5, k5.cell 3, k5.thaw, k5.set 3 _, r5.other (fun e => hBR e.symm) _, (Rg.chain hb3.out h5).trans (o5.bel hBw)⟩
  clear HC hr3 kL kR3 hb3 kB3
  go_upto_region 7 with (go_at_call 111; refine HC3.out.mono ?_; rintro e w4 ⟨g, cap, rfl, hnw, hc4, hs4, y3, yf, kB4, kR4, b4⟩)
  generalize World.setCell _ _ _ = w5 at *
  replace kB4 := kB4.out
  replace kR4 := kR4.out
  clear z0 z1 z2 z3 rfB y3 yf HC3
  obtain ⟨kE, oE⟩ := Rg.ret4 kR4 rfl (.int .i64 m) (.int .i64 s) (.int .i64 b) (.slice (some ⟨g, 0, none⟩) N1 cap)
  have hb4 := Rg.hid (b4.out.trans (oE.bel hRw))
  have hs5 := Rg.hid (hs4.out.only kR4 (fun x h => by cases h) oE)
  have z0 : w5.cell? ⟨B, 0, none⟩ = some (.int .i64 m) := kB4.cell 0
  have z1 : w5.cell? ⟨B, 1, none⟩ = some (.int .i64 s) := kB4.cell 1
  have z2 : w5.cell? ⟨B, 2, none⟩ = some (.int .i64 b) := kB4.cell 2
  have z3 : w5.cell? ⟨B, 3, none⟩ = some (.slice (some ⟨g, 0, none⟩) N1 cap) := kB4.cell 3
  have r0 : w5.cell? ⟨R, 0, none⟩ = some (.int .i64 0) := kR4.cell 0
  have r1 : w5.cell? ⟨R, 1, none⟩ = some (.int .i64 0) := kR4.cell 1
  have r2 : w5.cell? ⟨R, 2, none⟩ = some (.int .i64 0) := kR4.cell 2
  have r3 : w5.cell? ⟨R, 3, none⟩ = some (.slice none 0 0) := kR4.cell 3
  have rf := kR4.thaw
  replace kE := Rg.hid kE
  clear oE kB4 kR4 b4 hs4
  go_wp2
  replace kE := kE.out
  replace hb4 := hb4.out
  replace hs5 := hs5.out
  generalize World.setCell _ _ _ = WE at *
  exact bodyPost_ret (v := .tuple #[.agg #[.int .i64 m, .int .i64 s, .int .i64 b, .slice (some ⟨g, 0, none⟩) N1 cap], .int .i64 N, .int .i64 0]) (by simp [results, Tryz.results82, go_sem, kE.cell]) rfl ⟨g, cap, rfl, hs5, hc4, hb4, hnw⟩
/-- What Put answers. -/
def PPost (w : World) (r : Wn.W × Int × Nat) (e : Ending) (w' : World) : Prop := ∃ a c, e = .returned (.tuple #[WV r.1 a c, .int .i64 r.2.1, .int .i64 (r.2.2 : Nat)]) ∧ WAt w' r.1 a c ∧ Below w.heap.size w w'
/-- What Put answers, and that its list is as it was, or new. -/
def PPostN (w : World) (X : Wn.W) (a0 : Option Addr) (c0 : Nat) (r : Wn.W × Int × Nat) (e : Ending) (w' : World) : Prop := ∃ a c, e = .returned (.tuple #[WV r.1 a c, .int .i64 r.2.1, .int .i64 (r.2.2 : Nat)]) ∧ WAt w' r.1 a c ∧ Below w.heap.size w w' ∧ ((r.1 = X ∧ a = a0 ∧ c = c0) ∨ New w a)
theorem put_anyN (X : Wn.W) (a : Option Addr) (c : Nat) (x : ByteArray) (w : World) (h : WAt w X a c) :
    Calls Tryz.prog 82 #[WV X a c, .string x] w fun e w' => PPostN w X a c (Wn.put X x) e w' := by
  have HR : RightsAt 109 X.md X.sz X.bs a X.l.length c (Wn.rt X) := fun W => isRight_any X a c W
  cases hr : Wn.rt X with
  | false =>
    rw [hr] at HR
    rw [Wn.put_arg hr]
    exact (put_wrong _ _ _ a _ c x w HR).mono fun e w' ⟨h1, h2⟩ => ⟨a, c, h1, h.below h2, h2, .inl ⟨rfl, rfl, rfl⟩⟩
  | true =>
    rw [hr] at HR
    have hp := Wn.rt_parts hr
    by_cases hl : (X.l.length : Int) = X.sz
    · rw [Wn.put_full hr hl]
      exact (put_full _ _ _ a _ c x w HR (by simp [hl])).mono fun e w' ⟨h1, h2⟩ => ⟨a, c, h1, h.below h2, h2, .inl ⟨rfl, rfl, rfl⟩⟩
    · rw [Wn.put_ok hr hl]
      refine (put_right X.md X.sz X.bs _ a X.l.length (X.l.length + 1) c x X.l w HR (by simp [hl]) (fun W => numberAt_any X a c X.l.length hr (by omega) W) (fun W B g h1 h2 h3 => concat_any X.l _ _ rfl rfl (by omega) x a c B g W h1 h2 h3) h.row).mono fun e w' ⟨g, cap, h1, h2, h3, h4, h5⟩ => ?_
      refine ⟨some ⟨g, 0, none⟩, cap, ?_, ⟨h2.out, ?_⟩, h4, .inr (.blk h5.out)⟩
      · rw [h1]
        show _ = Ending.returned (.tuple #[WV ⟨_, _, _, _⟩ _ _, _, _])
        unfold WV
        simp only [List.length_append, List.length_singleton]
        rfl
      · simpa using h3.out
theorem put_any (X : Wn.W) (a : Option Addr) (c : Nat) (x : ByteArray) (w : World) (h : WAt w X a c) :
    Calls Tryz.prog 82 #[WV X a c, .string x] w fun e w' => PPost w (Wn.put X x) e w' := (put_anyN X a c x w h).mono fun _ _ ⟨a', c', h1, h2, h3, _⟩ => ⟨a', c', h1, h2, h3⟩
end Go.Proofs.YtfiffbohhhehkaaGreat
