/-
  Walks of layer 14: numbers; Ahead and Begin, the program's and the document's.
-/
import Derived.Test.YtnglfefgcdbgmaaRet
import Derived.Test.YtnglfefgcdbgmaaMathWn
import Derived.Test.YtnglfefgcdbgmaaRowH
namespace Go.Proofs.Ytnglfefgcdbgmaa
open Go.RowKit
theorem Wn.wrp {z : Int} (h : -9223372036854775808 ≤ z) (h2 : z ≤ 9223372036854775807) : IntKind.i64.wrap z = z ∧ wrap64 z = z := by
  refine ⟨?_, ?_⟩
  · rw [IntKind.wrap_i64]; omega
  · unfold wrap64; omega
theorem Wn.dT {a b : Int} (h : a < b) : decide (a < b) = true := decide_eq_true h
theorem Wn.dF {a b : Int} (h : ¬ a < b) : decide (a < b) = false := decide_eq_false h
theorem Wn.eT {a b : Int} (h : a ≤ b) : decide (a ≤ b) = true := decide_eq_true h
theorem Wn.eF {a b : Int} (h : ¬ a ≤ b) : decide (a ≤ b) = false := decide_eq_false h
set_option maxHeartbeats 400000 in
theorem onward_any (a s m : Int) (ha : 0 ≤ a) (ha2 : a ≤ 1000) (hs : 0 ≤ s) (hs2 : s ≤ 1000) (hm : 1 ≤ m) (hm2 : m ≤ 1000) (w : World) :
    Calls Try.prog 26 #[.int .i64 a, .int .i64 s, .int .i64 m] w fun e w' => e = .returned (.int .i64 ((a + s) % m)) ∧ w' = w := by
  have hw := Wn.wrp (z := a + s) (by omega) (by omega)
  have ht : (a + s).tmod m = (a + s) % m := Int.tmod_eq_emod_of_nonneg (by omega)
  have hr0 := Int.emod_nonneg (a + s) (b := m) (by omega)
  have hr1 := Int.emod_lt_of_pos (a + s) (b := m) (by omega)
  generalize (a + s) % m = r at *
  have hw2 := Wn.wrp (z := r) (by omega) (by omega)
  have hm0 : (m == 0) = false := by simp; omega
  have hm1 : ¬ m = 0 := by omega
  obtain ⟨hw1, hw3⟩ := hw
  obtain ⟨hw4, hw5⟩ := hw2
  go_enter Try.func26, Try.ntmps26
  go_wp2
  go_ret
  exact ⟨rfl, rfl⟩
set_option maxHeartbeats 400000 in
theorem below_any (n m : Int) (w : World) : Calls Try.prog 25 #[.int .i64 n, .int .i64 m] w fun e w' => e = .returned (.bool (decide (0 ≤ n ∧ n < m))) ∧ w' = w := by
  by_cases h0 : 0 ≤ n
  · have d0 : decide (0 ≤ n) = true := by simp; omega
    have e : Hid (decide (0 ≤ n ∧ n < m) = decide (n < m)) := by show _ = _; simp [h0]
    rw [e.out]
    go_enter Try.func25, Try.ntmps25
    go_wp2
    go_ret
    exact ⟨rfl, rfl⟩
  · have d0 : decide (0 ≤ n) = false := by simp; omega
    have e : Hid (decide (0 ≤ n ∧ n < m) = false) := by show _ = _; simp; omega
    rw [e.out]
    go_enter Try.func25, Try.ntmps25
    go_wp2
    go_ret
    exact ⟨rfl, rfl⟩
set_option maxHeartbeats 400000 in
theorem isMod_any (m : Int) (w : World) : Calls Try.prog 24 #[.int .i64 m] w fun e w' => e = .returned (.bool (decide (2 ≤ m ∧ m ≤ 64))) ∧ w' = w := by
  by_cases h0 : 2 ≤ m
  · have d0 : decide (2 ≤ m) = true := by simp; omega
    have e : Hid (decide (2 ≤ m ∧ m ≤ 64) = decide (m ≤ 64)) := by show _ = _; simp [h0]
    rw [e.out]
    go_enter Try.func24, Try.ntmps24
    go_wp2
    go_ret
    exact ⟨rfl, rfl⟩
  · have d0 : decide (2 ≤ m) = false := by simp; omega
    have e : Hid (decide (2 ≤ m ∧ m ≤ 64) = false) := by show _ = _; simp; omega
    rw [e.out]
    go_enter Try.func24, Try.ntmps24
    go_wp2
    go_ret
    exact ⟨rfl, rfl⟩
theorem Wn.wrpTo {z D : Int} (hD : z = D) (h : -9223372036854775808 ≤ z) (h2 : z ≤ 9223372036854775807) : IntKind.i64.wrap z = D ∧ wrap64 z = D := by
  subst hD; exact Wn.wrp h h2
set_option maxHeartbeats 1000000 in
theorem ahead_go (a b m D R : Int) (bm ba bb : Bool) (HM : Hid (∀ w, Calls Try.prog 24 #[.int .i64 m] w fun e w' => e = .returned (.bool bm) ∧ w' = w))
    (HA : Hid (∀ w, Calls Try.prog 25 #[.int .i64 a, .int .i64 m] w fun e w' => e = .returned (.bool ba) ∧ w' = w))
    (HB : Hid (∀ w, Calls Try.prog 25 #[.int .i64 b, .int .i64 m] w fun e w' => e = .returned (.bool bb) ∧ w' = w))
    (HO : Hid (bm = true → ba = true → bb = true → ∀ w, Calls Try.prog 26 #[.int .i64 b, .int .i64 D, .int .i64 m] w fun e w' => e = .returned (.int .i64 R) ∧ w' = w))
    (hw1 : bm = true → ba = true → bb = true → IntKind.i64.wrap (m - a) = D) (hw2 : bm = true → ba = true → bb = true → wrap64 (m - a) = D) (hR : Hid (¬ (bm = true ∧ ba = true ∧ bb = true) → R = -1)) (w : World) :
    Calls Try.prog 10 #[.int .i64 a, .int .i64 b, .int .i64 m] w fun e w' => e = .returned (.int .i64 R) ∧ w' = w := by
  cases bm with
  | false =>
    obtain rfl := hR.out (by simp)
    clear HO hw1 hw2 hR
    go_enter Try.func10, Try.ntmps10
    go_wp2_with (go_at_call 24; refine (HM.out _).mono ?_; rintro e w2 ⟨rfl, rfl⟩)
    go_ret
    exact ⟨rfl, rfl⟩
  | true => cases ba with
    | false =>
      obtain rfl := hR.out (by simp)
      clear HO hw1 hw2 hR
      go_enter Try.func10, Try.ntmps10
      go_wp2_with (first
        | (go_at_call 24; refine (HM.out _).mono ?_; rintro e w2 ⟨rfl, rfl⟩)
        | (go_at_call 25; refine (HA.out _).mono ?_; rintro e w2 ⟨rfl, rfl⟩))
      go_ret
      exact ⟨rfl, rfl⟩
    | true => cases bb with
      | false =>
        obtain rfl := hR.out (by simp)
        clear HO hw1 hw2 hR
        go_enter Try.func10, Try.ntmps10
        go_wp2_with (first
          | (go_at_call 24; refine (HM.out _).mono ?_; rintro e w2 ⟨rfl, rfl⟩)
          | (go_at_call 25; first | (with_reducible refine (HA.out _).mono ?_; rintro e w2 ⟨rfl, rfl⟩) | (with_reducible refine (HB.out _).mono ?_; rintro e w2 ⟨rfl, rfl⟩)))
        go_ret
        exact ⟨rfl, rfl⟩
      | true =>
        have hO := Rg.hid (HO.out rfl rfl rfl)
        replace hw1 := hw1 rfl rfl rfl
        replace hw2 := hw2 rfl rfl rfl
        clear HO hR
        go_enter Try.func10, Try.ntmps10
        go_wp2_with (first
          | (go_at_call 24; refine (HM.out _).mono ?_; rintro e w2 ⟨rfl, rfl⟩)
          | (go_at_call 25; first | (with_reducible refine (HA.out _).mono ?_; rintro e w2 ⟨rfl, rfl⟩) | (with_reducible refine (HB.out _).mono ?_; rintro e w2 ⟨rfl, rfl⟩))
          | (go_at_call 26; refine (hO.out _).mono ?_; rintro e w2 ⟨rfl, rfl⟩))
        go_ret
        exact ⟨rfl, rfl⟩
theorem ahead_any (a b m : Int) (w : World) : Calls Try.prog 10 #[.int .i64 a, .int .i64 b, .int .i64 m] w fun e w' => e = .returned (.int .i64 (Wn.ahead a b m)) ∧ w' = w := by
  refine ahead_go a b m (m - a) _ _ _ _ (isMod_any m) (below_any a m) (below_any b m) ?_ ?_ ?_ ?_ w
  · intro h1 h2 h3 W
    have h1 := of_decide_eq_true h1; have h2 := of_decide_eq_true h2; have h3 := of_decide_eq_true h3
    have hr : (b + (m - a)) % m = Wn.ahead a b m := by rw [Wn.ahead_eq ⟨h1.1, h1.2, h2.1, h2.2, h3.1, h3.2⟩, show b + (m - a) = b - a + m by omega]
    rw [← hr]
    exact onward_any b (m - a) m (by omega) (by omega) (by omega) (by omega) (by omega) (by omega) W
  · intro h1 h2 h3
    have h1 := of_decide_eq_true h1; have h2 := of_decide_eq_true h2
    exact (Wn.wrp (z := m - a) (by omega) (by omega)).1
  · intro h1 h2 h3
    have h1 := of_decide_eq_true h1; have h2 := of_decide_eq_true h2
    exact (Wn.wrp (z := m - a) (by omega) (by omega)).2
  · intro h
    simp only [decide_eq_true_eq] at h
    exact Wn.ahead_no (by omega)
end Go.Proofs.Ytnglfefgcdbgmaa
