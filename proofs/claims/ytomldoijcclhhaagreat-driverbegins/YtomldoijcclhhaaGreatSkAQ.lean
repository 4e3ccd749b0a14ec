/-
  Layer 15: Begin's refusal; the document's Begin.
-/
import Derived.Test.YtomldoijcclhhaaGreatSkAN
import Derived.Test.YtomldoijcclhhaaGreatSkAC
import Derived.Test.YtomldoijcclhhaaGreatSkAP
import Derived.Deep.RegionHeld3
import Derived.Deep.DeepCutAuto
import Derived.Deep.QuietTactic
import Derived.BigQuiet
namespace Go.Proofs.YtomldoijcclhhaaGreat
open Go.RowKit
def zD : Gp.Dr := ⟨0, 0, false, 0, 0, 0, Wn.zero, 0, [], [], 0, [], 0, 0, []⟩
theorem zDH (Kp : Nat → Prop) (W : World) : DH Kp W zD #[.int .i64 0, .int .i64 0, .bool false, .int .i64 0, .int .i64 0, .int .i64 0, .int .i64 0, .int .i64 0, .int .i64 0, .slice none 0 0, .int .i64 0, .slice none 0 0, .string ⟨#[]⟩, .int .i64 0, .slice none 0 0, .int .i64 0, .int .i64 0, .slice none 0 0] := ⟨⟨none, 0, none, 0, none, 0, none, 0⟩, rfl, ⟨.inl rfl, .inl rfl, .inl rfl, .inl rfl⟩, Nat.le_refl _, Nat.zero_le _, .inl rfl, .inl rfl, .inl rfl, .inl rfl⟩
set_option maxHeartbeats 1000000 in
theorem isIn_no1 (n a b : Int) (w : World) (h1 : decide (a ≤ n) = false) : Calls Tryz.prog 59 #[.int .i64 n, .int .i64 a, .int .i64 b] w fun e w' => e = .returned (.bool false) ∧ w' = w := by
  go_enter Tryz.func59, Tryz.ntmps59
  go_wp2
  go_ret
  exact ⟨rfl, rfl⟩
set_option maxHeartbeats 1000000 in
theorem isIn_no2 (n a b : Int) (w : World) (h1 : decide (a ≤ n) = true) (h2 : decide (n ≤ b) = false) : Calls Tryz.prog 59 #[.int .i64 n, .int .i64 a, .int .i64 b] w fun e w' => e = .returned (.bool false) ∧ w' = w := by
  go_enter Tryz.func59, Tryz.ntmps59
  go_wp2
  go_ret
  exact ⟨rfl, rfl⟩
theorem isIn_false {n a b : Int} (h : ¬ (a ≤ n ∧ n ≤ b)) (w : World) : Calls Tryz.prog 59 #[.int .i64 n, .int .i64 a, .int .i64 b] w fun e w' => e = .returned (.bool false) ∧ w' = w := by
  by_cases h1 : a ≤ n
  · exact isIn_no2 n a b w (by simpa using h1) (by simp; omega)
  · exact isIn_no1 n a b w (by simp; omega)
set_option maxHeartbeats 1000000 in
set_option maxRecDepth 100000 in
theorem mayBe_n1 (lt z r : Int) (K : Nat) (w : World) (hK : ((K : Int) == 0) = true) (HC : Hid (∀ W, Calls Tryz.prog 83 #[.int .i64 z] W fun e w' => e = .returned (.int .i64 (K : Int)) ∧ w' = W)) : Calls Tryz.prog 42 #[.int .i64 lt, .int .i64 z, .int .i64 r] w fun e w' => e = .returned (.bool false) ∧ w' = w := by
  go_enter Tryz.func42, Tryz.ntmps42
  go_wp2_with (go_at_call 83; refine (HC.out _).mono ?_; rintro e w1 ⟨rfl, hw⟩; obtain rfl := hw.symm)
  go_ret
  exact ⟨rfl, rfl⟩
set_option maxHeartbeats 1000000 in
set_option maxRecDepth 100000 in
theorem mayBe_n2 (lt z r : Int) (K : Nat) (w : World) (hK : ((K : Int) == 0) = false) (HC : Hid (∀ W, Calls Tryz.prog 83 #[.int .i64 z] W fun e w' => e = .returned (.int .i64 (K : Int)) ∧ w' = W)) (HI : Hid (∀ W, Calls Tryz.prog 59 #[.int .i64 r, .int .i64 1, .int .i64 7] W fun e w' => e = .returned (.bool false) ∧ w' = W)) : Calls Tryz.prog 42 #[.int .i64 lt, .int .i64 z, .int .i64 r] w fun e w' => e = .returned (.bool false) ∧ w' = w := by
  go_enter Tryz.func42, Tryz.ntmps42
  go_wp2_with (first | (go_at_call 83; refine (HC.out _).mono ?_; rintro e w1 ⟨rfl, hw⟩; obtain rfl := hw.symm) | (go_at_call 59; refine (HI.out _).mono ?_; rintro e w1 ⟨rfl, hw⟩; obtain rfl := hw.symm))
  go_ret
  exact ⟨rfl, rfl⟩
set_option maxHeartbeats 1000000 in
set_option maxRecDepth 100000 in
theorem mayBe_n3 (lt z r : Int) (K : Nat) (w : World) (hK : ((K : Int) == 0) = false) (d1 : (lt == 71) = false) (d2 : (lt == 103) = false) (HC : Hid (∀ W, Calls Tryz.prog 83 #[.int .i64 z] W fun e w' => e = .returned (.int .i64 (K : Int)) ∧ w' = W)) (HI : Hid (∀ W, Calls Tryz.prog 59 #[.int .i64 r, .int .i64 1, .int .i64 7] W fun e w' => e = .returned (.bool true) ∧ w' = W)) : Calls Tryz.prog 42 #[.int .i64 lt, .int .i64 z, .int .i64 r] w fun e w' => e = .returned (.bool false) ∧ w' = w := by
  go_enter Tryz.func42, Tryz.ntmps42
  go_wp2_with (first | (go_at_call 83; refine (HC.out _).mono ?_; rintro e w1 ⟨rfl, hw⟩; obtain rfl := hw.symm) | (go_at_call 59; refine (HI.out _).mono ?_; rintro e w1 ⟨rfl, hw⟩; obtain rfl := hw.symm))
  go_ret
  exact ⟨rfl, rfl⟩
set_option maxHeartbeats 1000000 in
set_option maxRecDepth 100000 in
theorem mayBe_n4 (z r : Int) (K : Nat) (w : World) (hK : ((K : Int) == 0) = false) (hz : decide (z ≤ 64) = false) (HC : Hid (∀ W, Calls Tryz.prog 83 #[.int .i64 z] W fun e w' => e = .returned (.int .i64 (K : Int)) ∧ w' = W)) (HI : Hid (∀ W, Calls Tryz.prog 59 #[.int .i64 r, .int .i64 1, .int .i64 7] W fun e w' => e = .returned (.bool true) ∧ w' = W)) : Calls Tryz.prog 42 #[.int .i64 103, .int .i64 z, .int .i64 r] w fun e w' => e = .returned (.bool false) ∧ w' = w := by
  go_enter Tryz.func42, Tryz.ntmps42
  go_wp2_with (first | (go_at_call 83; refine (HC.out _).mono ?_; rintro e w1 ⟨rfl, hw⟩; obtain rfl := hw.symm) | (go_at_call 59; refine (HI.out _).mono ?_; rintro e w1 ⟨rfl, hw⟩; obtain rfl := hw.symm))
  go_ret
  exact ⟨rfl, rfl⟩
/-- what Begin takes -/
def Tk (lt z r : Int) : Prop := (lt = 103 ∨ lt = 71) ∧ Gf.code z ≠ 0 ∧ (lt = 103 → z ≤ 64) ∧ 1 ≤ r ∧ r ≤ 7
theorem gmayBe_no {lt z r : Int} (h : ¬ Tk lt z r) (w : World) : Calls Tryz.prog 42 #[.int .i64 lt, .int .i64 z, .int .i64 r] w fun e w' => e = .returned (.bool false) ∧ w' = w := by
  by_cases hc : Gf.code z = 0
  · exact mayBe_n1 lt z r _ w (by simp [hc]) (gcode_any z)
  have hK : ((Gf.code z : Int) == 0) = false := by simp; omega
  by_cases hi : 1 ≤ r ∧ r ≤ 7
  · by_cases h1 : lt = 71
    · exact absurd ⟨.inr h1, hc, fun e => by omega, hi.1, hi.2⟩ h
    · by_cases h2 : lt = 103
      · subst h2
        by_cases h3 : z ≤ 64
        · exact absurd ⟨.inl rfl, hc, fun _ => h3, hi.1, hi.2⟩ h
        · exact mayBe_n4 z r _ w hK (by simp; omega) (gcode_any z) (isIn_true hi.1 hi.2)
      · exact mayBe_n3 lt z r _ w hK (by simpa using h1) (by simpa using h2) (gcode_any z) (isIn_true hi.1 hi.2)
  · exact mayBe_n2 lt z r _ w hK (gcode_any z) (isIn_false hi)
set_option maxHeartbeats 4000000 in
set_option maxRecDepth 100000 in
theorem gbegin_no0 (lt : Int) (ca : Bool) (z ro : Int) (w : World) (HM : Hid (∀ W, Calls Tryz.prog 42 #[.int .i64 lt, .int .i64 z, .int .i64 ro] W fun e w' => e = .returned (.bool false) ∧ w' = W)) : Calls Tryz.prog 21 #[.int .i64 lt, .bool ca, .int .i64 z, .int .i64 ro] w fun e w' => e = .returned (.tuple #[.agg #[.int .i64 0, .int .i64 0, .bool false, .int .i64 0, .int .i64 0, .int .i64 0, .int .i64 0, .int .i64 0, .int .i64 0, .slice none 0 0, .int .i64 0, .slice none 0 0, .string ⟨#[]⟩, .int .i64 0, .slice none 0 0, .int .i64 0, .int .i64 0, .slice none 0 0], .string ⟨#[]⟩, .int .i64 1]) ∧ Below w.heap.size w w' := by
  have kR0 : Hid (Rg.Bk w.heap.size [.int .i64 0, .int .i64 0, .bool false, .int .i64 0, .int .i64 0, .int .i64 0, .int .i64 0, .int .i64 0, .int .i64 0, .slice none 0 0, .int .i64 0, .slice none 0 0, .string ⟨#[]⟩, .int .i64 0, .slice none 0 0, .int .i64 0, .int .i64 0, .slice none 0 0] 29 (w.alloc (.cells #[.int .i64 0, .int .i64 0, .bool false, .int .i64 0, .int .i64 0, .int .i64 0, .int .i64 0, .int .i64 0, .int .i64 0, .slice none 0 0, .int .i64 0, .slice none 0 0, .string ⟨#[]⟩, .int .i64 0, .slice none 0 0, .int .i64 0, .int .i64 0, .slice none 0 0] 29))) := Rg.Bk.new rfl
  have hb0 := Rg.hid (Rg.al1 w (.cells #[.int .i64 0, .int .i64 0, .bool false, .int .i64 0, .int .i64 0, .int .i64 0, .int .i64 0, .int .i64 0, .int .i64 0, .slice none 0 0, .int .i64 0, .slice none 0 0, .string ⟨#[]⟩, .int .i64 0, .slice none 0 0, .int .i64 0, .int .i64 0, .slice none 0 0] 29))
  obtain ⟨R, hR⟩ : ∃ R, R = w.heap.size := ⟨_, rfl⟩
  go_enter Tryz.func21, Tryz.ntmps21
  go_upto_region 1 with fail
  generalize World.alloc _ _ = w1 at *
  rw [← hR] at kR0 ⊢
  have hRw : Hid (w.heap.size ≤ R) := by show _ ≤ _; omega
  clear hR
  obtain ⟨w2, st2, k2, o2⟩ := DH.over (Kp := fun _ => True) (zDH _ w1) (zDH (fun _ => True) w1) kR0.out
  have hres := Rg.hid ((zDH (fun _ => True) w1).load k2.out)
  have hfe : Hid (Below w.heap.size w w2) := hb0.out.trans (o2.out.bel hRw.out)
  clear kR0 hb0 k2 o2
  go_upto_region 2 with (go_at_call 42; refine (HM.out _).mono ?_; rintro e w3 ⟨rfl, hw⟩; obtain rfl := hw.symm)
  go_wp2_with (with_reducible refine is_store (.tmp 8) (.tmp 17) 29 ?_; refine list_store (.tmp 8) (.tmp 17) 29 rfl rfl st2.out ?_)
  exact bodyPost_ret (v := .tuple #[.agg #[.int .i64 0, .int .i64 0, .bool false, .int .i64 0, .int .i64 0, .int .i64 0, .int .i64 0, .int .i64 0, .int .i64 0, .slice none 0 0, .int .i64 0, .slice none 0 0, .string ⟨#[]⟩, .int .i64 0, .slice none 0 0, .int .i64 0, .int .i64 0, .slice none 0 0], .string ⟨#[]⟩, .int .i64 1]) (results_row3 rfl rfl rfl rfl hres.out) rfl ⟨rfl, hfe.out⟩
set_option maxHeartbeats 4000000 in
set_option maxRecDepth 100000 in
theorem rbegin_n1 (lt : Int) (ca : Bool) (z ro : Int) (w : World) (d1 : (lt != 103) = true) (d2 : (lt != 71) = true) : Calls Tryz.prog 16 #[.int .i64 lt, .bool ca, .int .i64 z, .int .i64 ro] w fun e w' => e = .returned (.tuple #[.agg #[.int .i64 0, .int .i64 0, .bool false, .int .i64 0, .int .i64 0, .int .i64 0, .int .i64 0, .int .i64 0, .int .i64 0, .slice none 0 0, .int .i64 0, .slice none 0 0, .string ⟨#[]⟩, .int .i64 0, .slice none 0 0, .int .i64 0, .int .i64 0, .slice none 0 0], .string ⟨#[]⟩, .int .i64 1]) ∧ Below w.heap.size w w' := by
  have kR0 : Hid (Rg.Bk w.heap.size [.int .i64 0, .int .i64 0, .bool false, .int .i64 0, .int .i64 0, .int .i64 0, .int .i64 0, .int .i64 0, .int .i64 0, .slice none 0 0, .int .i64 0, .slice none 0 0, .string ⟨#[]⟩, .int .i64 0, .slice none 0 0, .int .i64 0, .int .i64 0, .slice none 0 0] 29 (w.alloc (.cells #[.int .i64 0, .int .i64 0, .bool false, .int .i64 0, .int .i64 0, .int .i64 0, .int .i64 0, .int .i64 0, .int .i64 0, .slice none 0 0, .int .i64 0, .slice none 0 0, .string ⟨#[]⟩, .int .i64 0, .slice none 0 0, .int .i64 0, .int .i64 0, .slice none 0 0] 29))) := Rg.Bk.new rfl
  have hb0 := Rg.hid (Rg.al1 w (.cells #[.int .i64 0, .int .i64 0, .bool false, .int .i64 0, .int .i64 0, .int .i64 0, .int .i64 0, .int .i64 0, .int .i64 0, .slice none 0 0, .int .i64 0, .slice none 0 0, .string ⟨#[]⟩, .int .i64 0, .slice none 0 0, .int .i64 0, .int .i64 0, .slice none 0 0] 29))
  obtain ⟨R, hR⟩ : ∃ R, R = w.heap.size := ⟨_, rfl⟩
  go_enter Tryz.func16, Tryz.ntmps16
  go_upto_region 1 with fail
  generalize World.alloc _ _ = w1 at *
  rw [← hR] at kR0 ⊢
  have hRw : Hid (w.heap.size ≤ R) := by show _ ≤ _; omega
  clear hR
  obtain ⟨w2, st2, k2, o2⟩ := DH.over (Kp := fun _ => True) (zDH _ w1) (zDH (fun _ => True) w1) kR0.out
  have hres := Rg.hid ((zDH (fun _ => True) w1).load k2.out)
  have hfe : Hid (Below w.heap.size w w2) := hb0.out.trans (o2.out.bel hRw.out)
  clear kR0 hb0 k2 o2
  go_upto_region 2 with fail
  go_wp2_with (with_reducible refine is_store (.tmp 8) (.tmp 39) 29 ?_; refine list_store (.tmp 8) (.tmp 39) 29 rfl rfl st2.out ?_)
  exact bodyPost_ret (v := .tuple #[.agg #[.int .i64 0, .int .i64 0, .bool false, .int .i64 0, .int .i64 0, .int .i64 0, .int .i64 0, .int .i64 0, .int .i64 0, .slice none 0 0, .int .i64 0, .slice none 0 0, .string ⟨#[]⟩, .int .i64 0, .slice none 0 0, .int .i64 0, .int .i64 0, .slice none 0 0], .string ⟨#[]⟩, .int .i64 1]) (results_row3 rfl rfl rfl rfl hres.out) rfl ⟨rfl, hfe.out⟩
set_option maxHeartbeats 4000000 in
set_option maxRecDepth 100000 in
theorem rbegin_n2_103 (ca : Bool) (z ro : Int) (K : Nat) (w : World) (hK : ((K : Int) == 0) = true) (HC : Hid (∀ W, Calls Tryz.prog 39 #[.int .i64 z] W fun e w' => e = .returned (.int .i64 (K : Int)) ∧ w' = W)) : Calls Tryz.prog 16 #[.int .i64 103, .bool ca, .int .i64 z, .int .i64 ro] w fun e w' => e = .returned (.tuple #[.agg #[.int .i64 0, .int .i64 0, .bool false, .int .i64 0, .int .i64 0, .int .i64 0, .int .i64 0, .int .i64 0, .int .i64 0, .slice none 0 0, .int .i64 0, .slice none 0 0, .string ⟨#[]⟩, .int .i64 0, .slice none 0 0, .int .i64 0, .int .i64 0, .slice none 0 0], .string ⟨#[]⟩, .int .i64 1]) ∧ Below w.heap.size w w' := by
  have kR0 : Hid (Rg.Bk w.heap.size [.int .i64 0, .int .i64 0, .bool false, .int .i64 0, .int .i64 0, .int .i64 0, .int .i64 0, .int .i64 0, .int .i64 0, .slice none 0 0, .int .i64 0, .slice none 0 0, .string ⟨#[]⟩, .int .i64 0, .slice none 0 0, .int .i64 0, .int .i64 0, .slice none 0 0] 29 (w.alloc (.cells #[.int .i64 0, .int .i64 0, .bool false, .int .i64 0, .int .i64 0, .int .i64 0, .int .i64 0, .int .i64 0, .int .i64 0, .slice none 0 0, .int .i64 0, .slice none 0 0, .string ⟨#[]⟩, .int .i64 0, .slice none 0 0, .int .i64 0, .int .i64 0, .slice none 0 0] 29))) := Rg.Bk.new rfl
  have hb0 := Rg.hid (Rg.al1 w (.cells #[.int .i64 0, .int .i64 0, .bool false, .int .i64 0, .int .i64 0, .int .i64 0, .int .i64 0, .int .i64 0, .int .i64 0, .slice none 0 0, .int .i64 0, .slice none 0 0, .string ⟨#[]⟩, .int .i64 0, .slice none 0 0, .int .i64 0, .int .i64 0, .slice none 0 0] 29))
  obtain ⟨R, hR⟩ : ∃ R, R = w.heap.size := ⟨_, rfl⟩
  go_enter Tryz.func16, Tryz.ntmps16
  go_upto_region 1 with fail
  generalize World.alloc _ _ = w1 at *
  rw [← hR] at kR0 ⊢
  have hRw : Hid (w.heap.size ≤ R) := by show _ ≤ _; omega
  clear hR
  obtain ⟨w2, st2, k2, o2⟩ := DH.over (Kp := fun _ => True) (zDH _ w1) (zDH (fun _ => True) w1) kR0.out
  have hres := Rg.hid ((zDH (fun _ => True) w1).load k2.out)
  have hfe : Hid (Below w.heap.size w w2) := hb0.out.trans (o2.out.bel hRw.out)
  clear kR0 hb0 k2 o2
  go_upto_region 2 with (go_at_call 39; refine (HC.out _).mono ?_; rintro e w3 ⟨rfl, hw⟩; obtain rfl := hw.symm)
  go_wp2_with (with_reducible refine is_store (.tmp 8) (.tmp 39) 29 ?_; refine list_store (.tmp 8) (.tmp 39) 29 rfl rfl st2.out ?_)
  exact bodyPost_ret (v := .tuple #[.agg #[.int .i64 0, .int .i64 0, .bool false, .int .i64 0, .int .i64 0, .int .i64 0, .int .i64 0, .int .i64 0, .int .i64 0, .slice none 0 0, .int .i64 0, .slice none 0 0, .string ⟨#[]⟩, .int .i64 0, .slice none 0 0, .int .i64 0, .int .i64 0, .slice none 0 0], .string ⟨#[]⟩, .int .i64 1]) (results_row3 rfl rfl rfl rfl hres.out) rfl ⟨rfl, hfe.out⟩
set_option maxHeartbeats 4000000 in
set_option maxRecDepth 100000 in
theorem rbegin_n4_103 (ca : Bool) (z ro : Int) (K : Nat) (w : World) (hK : ((K : Int) == 0) = false) (hz : decide ((64 : Int) < z) = false) (hr : decide (ro < 1) = true) (HC : Hid (∀ W, Calls Tryz.prog 39 #[.int .i64 z] W fun e w' => e = .returned (.int .i64 (K : Int)) ∧ w' = W)) : Calls Tryz.prog 16 #[.int .i64 103, .bool ca, .int .i64 z, .int .i64 ro] w fun e w' => e = .returned (.tuple #[.agg #[.int .i64 0, .int .i64 0, .bool false, .int .i64 0, .int .i64 0, .int .i64 0, .int .i64 0, .int .i64 0, .int .i64 0, .slice none 0 0, .int .i64 0, .slice none 0 0, .string ⟨#[]⟩, .int .i64 0, .slice none 0 0, .int .i64 0, .int .i64 0, .slice none 0 0], .string ⟨#[]⟩, .int .i64 1]) ∧ Below w.heap.size w w' := by
  have kR0 : Hid (Rg.Bk w.heap.size [.int .i64 0, .int .i64 0, .bool false, .int .i64 0, .int .i64 0, .int .i64 0, .int .i64 0, .int .i64 0, .int .i64 0, .slice none 0 0, .int .i64 0, .slice none 0 0, .string ⟨#[]⟩, .int .i64 0, .slice none 0 0, .int .i64 0, .int .i64 0, .slice none 0 0] 29 (w.alloc (.cells #[.int .i64 0, .int .i64 0, .bool false, .int .i64 0, .int .i64 0, .int .i64 0, .int .i64 0, .int .i64 0, .int .i64 0, .slice none 0 0, .int .i64 0, .slice none 0 0, .string ⟨#[]⟩, .int .i64 0, .slice none 0 0, .int .i64 0, .int .i64 0, .slice none 0 0] 29))) := Rg.Bk.new rfl
  have hb0 := Rg.hid (Rg.al1 w (.cells #[.int .i64 0, .int .i64 0, .bool false, .int .i64 0, .int .i64 0, .int .i64 0, .int .i64 0, .int .i64 0, .int .i64 0, .slice none 0 0, .int .i64 0, .slice none 0 0, .string ⟨#[]⟩, .int .i64 0, .slice none 0 0, .int .i64 0, .int .i64 0, .slice none 0 0] 29))
  obtain ⟨R, hR⟩ : ∃ R, R = w.heap.size := ⟨_, rfl⟩
  go_enter Tryz.func16, Tryz.ntmps16
  go_upto_region 1 with fail
  generalize World.alloc _ _ = w1 at *
  rw [← hR] at kR0 ⊢
  have hRw : Hid (w.heap.size ≤ R) := by show _ ≤ _; omega
  clear hR
  obtain ⟨w2, st2, k2, o2⟩ := DH.over (Kp := fun _ => True) (zDH _ w1) (zDH (fun _ => True) w1) kR0.out
  have hres := Rg.hid ((zDH (fun _ => True) w1).load k2.out)
  have hfe : Hid (Below w.heap.size w w2) := hb0.out.trans (o2.out.bel hRw.out)
  clear kR0 hb0 k2 o2
  go_upto_region 2 with (go_at_call 39; refine (HC.out _).mono ?_; rintro e w3 ⟨rfl, hw⟩; obtain rfl := hw.symm)
  go_wp2_with (with_reducible refine is_store (.tmp 8) (.tmp 39) 29 ?_; refine list_store (.tmp 8) (.tmp 39) 29 rfl rfl st2.out ?_)
  exact bodyPost_ret (v := .tuple #[.agg #[.int .i64 0, .int .i64 0, .bool false, .int .i64 0, .int .i64 0, .int .i64 0, .int .i64 0, .int .i64 0, .int .i64 0, .slice none 0 0, .int .i64 0, .slice none 0 0, .string ⟨#[]⟩, .int .i64 0, .slice none 0 0, .int .i64 0, .int .i64 0, .slice none 0 0], .string ⟨#[]⟩, .int .i64 1]) (results_row3 rfl rfl rfl rfl hres.out) rfl ⟨rfl, hfe.out⟩
set_option maxHeartbeats 4000000 in
set_option maxRecDepth 100000 in
theorem rbegin_n5_103 (ca : Bool) (z ro : Int) (K : Nat) (w : World) (hK : ((K : Int) == 0) = false) (hz : decide ((64 : Int) < z) = false) (hr : decide (ro < 1) = false) (hq : decide ((7 : Int) < ro) = true) (HC : Hid (∀ W, Calls Tryz.prog 39 #[.int .i64 z] W fun e w' => e = .returned (.int .i64 (K : Int)) ∧ w' = W)) : Calls Tryz.prog 16 #[.int .i64 103, .bool ca, .int .i64 z, .int .i64 ro] w fun e w' => e = .returned (.tuple #[.agg #[.int .i64 0, .int .i64 0, .bool false, .int .i64 0, .int .i64 0, .int .i64 0, .int .i64 0, .int .i64 0, .int .i64 0, .slice none 0 0, .int .i64 0, .slice none 0 0, .string ⟨#[]⟩, .int .i64 0, .slice none 0 0, .int .i64 0, .int .i64 0, .slice none 0 0], .string ⟨#[]⟩, .int .i64 1]) ∧ Below w.heap.size w w' := by
  have kR0 : Hid (Rg.Bk w.heap.size [.int .i64 0, .int .i64 0, .bool false, .int .i64 0, .int .i64 0, .int .i64 0, .int .i64 0, .int .i64 0, .int .i64 0, .slice none 0 0, .int .i64 0, .slice none 0 0, .string ⟨#[]⟩, .int .i64 0, .slice none 0 0, .int .i64 0, .int .i64 0, .slice none 0 0] 29 (w.alloc (.cells #[.int .i64 0, .int .i64 0, .bool false, .int .i64 0, .int .i64 0, .int .i64 0, .int .i64 0, .int .i64 0, .int .i64 0, .slice none 0 0, .int .i64 0, .slice none 0 0, .string ⟨#[]⟩, .int .i64 0, .slice none 0 0, .int .i64 0, .int .i64 0, .slice none 0 0] 29))) := Rg.Bk.new rfl
  have hb0 := Rg.hid (Rg.al1 w (.cells #[.int .i64 0, .int .i64 0, .bool false, .int .i64 0, .int .i64 0, .int .i64 0, .int .i64 0, .int .i64 0, .int .i64 0, .slice none 0 0, .int .i64 0, .slice none 0 0, .string ⟨#[]⟩, .int .i64 0, .slice none 0 0, .int .i64 0, .int .i64 0, .slice none 0 0] 29))
  obtain ⟨R, hR⟩ : ∃ R, R = w.heap.size := ⟨_, rfl⟩
  go_enter Tryz.func16, Tryz.ntmps16
  go_upto_region 1 with fail
  generalize World.alloc _ _ = w1 at *
  rw [← hR] at kR0 ⊢
  have hRw : Hid (w.heap.size ≤ R) := by show _ ≤ _; omega
  clear hR
  obtain ⟨w2, st2, k2, o2⟩ := DH.over (Kp := fun _ => True) (zDH _ w1) (zDH (fun _ => True) w1) kR0.out
  have hres := Rg.hid ((zDH (fun _ => True) w1).load k2.out)
  have hfe : Hid (Below w.heap.size w w2) := hb0.out.trans (o2.out.bel hRw.out)
  clear kR0 hb0 k2 o2
  go_upto_region 2 with (go_at_call 39; refine (HC.out _).mono ?_; rintro e w3 ⟨rfl, hw⟩; obtain rfl := hw.symm)
  go_wp2_with (with_reducible refine is_store (.tmp 8) (.tmp 39) 29 ?_; refine list_store (.tmp 8) (.tmp 39) 29 rfl rfl st2.out ?_)
  exact bodyPost_ret (v := .tuple #[.agg #[.int .i64 0, .int .i64 0, .bool false, .int .i64 0, .int .i64 0, .int .i64 0, .int .i64 0, .int .i64 0, .int .i64 0, .slice none 0 0, .int .i64 0, .slice none 0 0, .string ⟨#[]⟩, .int .i64 0, .slice none 0 0, .int .i64 0, .int .i64 0, .slice none 0 0], .string ⟨#[]⟩, .int .i64 1]) (results_row3 rfl rfl rfl rfl hres.out) rfl ⟨rfl, hfe.out⟩
set_option maxHeartbeats 4000000 in
set_option maxRecDepth 100000 in
theorem rbegin_n2_71 (ca : Bool) (z ro : Int) (K : Nat) (w : World) (hK : ((K : Int) == 0) = true) (HC : Hid (∀ W, Calls Tryz.prog 39 #[.int .i64 z] W fun e w' => e = .returned (.int .i64 (K : Int)) ∧ w' = W)) : Calls Tryz.prog 16 #[.int .i64 71, .bool ca, .int .i64 z, .int .i64 ro] w fun e w' => e = .returned (.tuple #[.agg #[.int .i64 0, .int .i64 0, .bool false, .int .i64 0, .int .i64 0, .int .i64 0, .int .i64 0, .int .i64 0, .int .i64 0, .slice none 0 0, .int .i64 0, .slice none 0 0, .string ⟨#[]⟩, .int .i64 0, .slice none 0 0, .int .i64 0, .int .i64 0, .slice none 0 0], .string ⟨#[]⟩, .int .i64 1]) ∧ Below w.heap.size w w' := by
  have kR0 : Hid (Rg.Bk w.heap.size [.int .i64 0, .int .i64 0, .bool false, .int .i64 0, .int .i64 0, .int .i64 0, .int .i64 0, .int .i64 0, .int .i64 0, .slice none 0 0, .int .i64 0, .slice none 0 0, .string ⟨#[]⟩, .int .i64 0, .slice none 0 0, .int .i64 0, .int .i64 0, .slice none 0 0] 29 (w.alloc (.cells #[.int .i64 0, .int .i64 0, .bool false, .int .i64 0, .int .i64 0, .int .i64 0, .int .i64 0, .int .i64 0, .int .i64 0, .slice none 0 0, .int .i64 0, .slice none 0 0, .string ⟨#[]⟩, .int .i64 0, .slice none 0 0, .int .i64 0, .int .i64 0, .slice none 0 0] 29))) := Rg.Bk.new rfl
  have hb0 := Rg.hid (Rg.al1 w (.cells #[.int .i64 0, .int .i64 0, .bool false, .int .i64 0, .int .i64 0, .int .i64 0, .int .i64 0, .int .i64 0, .int .i64 0, .slice none 0 0, .int .i64 0, .slice none 0 0, .string ⟨#[]⟩, .int .i64 0, .slice none 0 0, .int .i64 0, .int .i64 0, .slice none 0 0] 29))
  obtain ⟨R, hR⟩ : ∃ R, R = w.heap.size := ⟨_, rfl⟩
  go_enter Tryz.func16, Tryz.ntmps16
  go_upto_region 1 with fail
  generalize World.alloc _ _ = w1 at *
  rw [← hR] at kR0 ⊢
  have hRw : Hid (w.heap.size ≤ R) := by show _ ≤ _; omega
  clear hR
  obtain ⟨w2, st2, k2, o2⟩ := DH.over (Kp := fun _ => True) (zDH _ w1) (zDH (fun _ => True) w1) kR0.out
  have hres := Rg.hid ((zDH (fun _ => True) w1).load k2.out)
  have hfe : Hid (Below w.heap.size w w2) := hb0.out.trans (o2.out.bel hRw.out)
  clear kR0 hb0 k2 o2
  go_upto_region 2 with (go_at_call 39; refine (HC.out _).mono ?_; rintro e w3 ⟨rfl, hw⟩; obtain rfl := hw.symm)
  go_wp2_with (with_reducible refine is_store (.tmp 8) (.tmp 39) 29 ?_; refine list_store (.tmp 8) (.tmp 39) 29 rfl rfl st2.out ?_)
  exact bodyPost_ret (v := .tuple #[.agg #[.int .i64 0, .int .i64 0, .bool false, .int .i64 0, .int .i64 0, .int .i64 0, .int .i64 0, .int .i64 0, .int .i64 0, .slice none 0 0, .int .i64 0, .slice none 0 0, .string ⟨#[]⟩, .int .i64 0, .slice none 0 0, .int .i64 0, .int .i64 0, .slice none 0 0], .string ⟨#[]⟩, .int .i64 1]) (results_row3 rfl rfl rfl rfl hres.out) rfl ⟨rfl, hfe.out⟩
set_option maxHeartbeats 4000000 in
set_option maxRecDepth 100000 in
theorem rbegin_n4_71 (ca : Bool) (z ro : Int) (K : Nat) (w : World) (hK : ((K : Int) == 0) = false) (hr : decide (ro < 1) = true) (HC : Hid (∀ W, Calls Tryz.prog 39 #[.int .i64 z] W fun e w' => e = .returned (.int .i64 (K : Int)) ∧ w' = W)) : Calls Tryz.prog 16 #[.int .i64 71, .bool ca, .int .i64 z, .int .i64 ro] w fun e w' => e = .returned (.tuple #[.agg #[.int .i64 0, .int .i64 0, .bool false, .int .i64 0, .int .i64 0, .int .i64 0, .int .i64 0, .int .i64 0, .int .i64 0, .slice none 0 0, .int .i64 0, .slice none 0 0, .string ⟨#[]⟩, .int .i64 0, .slice none 0 0, .int .i64 0, .int .i64 0, .slice none 0 0], .string ⟨#[]⟩, .int .i64 1]) ∧ Below w.heap.size w w' := by
  have kR0 : Hid (Rg.Bk w.heap.size [.int .i64 0, .int .i64 0, .bool false, .int .i64 0, .int .i64 0, .int .i64 0, .int .i64 0, .int .i64 0, .int .i64 0, .slice none 0 0, .int .i64 0, .slice none 0 0, .string ⟨#[]⟩, .int .i64 0, .slice none 0 0, .int .i64 0, .int .i64 0, .slice none 0 0] 29 (w.alloc (.cells #[.int .i64 0, .int .i64 0, .bool false, .int .i64 0, .int .i64 0, .int .i64 0, .int .i64 0, .int .i64 0, .int .i64 0, .slice none 0 0, .int .i64 0, .slice none 0 0, .string ⟨#[]⟩, .int .i64 0, .slice none 0 0, .int .i64 0, .int .i64 0, .slice none 0 0] 29))) := Rg.Bk.new rfl
  have hb0 := Rg.hid (Rg.al1 w (.cells #[.int .i64 0, .int .i64 0, .bool false, .int .i64 0, .int .i64 0, .int .i64 0, .int .i64 0, .int .i64 0, .int .i64 0, .slice none 0 0, .int .i64 0, .slice none 0 0, .string ⟨#[]⟩, .int .i64 0, .slice none 0 0, .int .i64 0, .int .i64 0, .slice none 0 0] 29))
  obtain ⟨R, hR⟩ : ∃ R, R = w.heap.size := ⟨_, rfl⟩
  go_enter Tryz.func16, Tryz.ntmps16
  go_upto_region 1 with fail
  generalize World.alloc _ _ = w1 at *
  rw [← hR] at kR0 ⊢
  have hRw : Hid (w.heap.size ≤ R) := by show _ ≤ _; omega
  clear hR
  obtain ⟨w2, st2, k2, o2⟩ := DH.over (Kp := fun _ => True) (zDH _ w1) (zDH (fun _ => True) w1) kR0.out
  have hres := Rg.hid ((zDH (fun _ => True) w1).load k2.out)
  have hfe : Hid (Below w.heap.size w w2) := hb0.out.trans (o2.out.bel hRw.out)
  clear kR0 hb0 k2 o2
  go_upto_region 2 with (go_at_call 39; refine (HC.out _).mono ?_; rintro e w3 ⟨rfl, hw⟩; obtain rfl := hw.symm)
  go_wp2_with (with_reducible refine is_store (.tmp 8) (.tmp 39) 29 ?_; refine list_store (.tmp 8) (.tmp 39) 29 rfl rfl st2.out ?_)
  exact bodyPost_ret (v := .tuple #[.agg #[.int .i64 0, .int .i64 0, .bool false, .int .i64 0, .int .i64 0, .int .i64 0, .int .i64 0, .int .i64 0, .int .i64 0, .slice none 0 0, .int .i64 0, .slice none 0 0, .string ⟨#[]⟩, .int .i64 0, .slice none 0 0, .int .i64 0, .int .i64 0, .slice none 0 0], .string ⟨#[]⟩, .int .i64 1]) (results_row3 rfl rfl rfl rfl hres.out) rfl ⟨rfl, hfe.out⟩
set_option maxHeartbeats 4000000 in
set_option maxRecDepth 100000 in
theorem rbegin_n5_71 (ca : Bool) (z ro : Int) (K : Nat) (w : World) (hK : ((K : Int) == 0) = false) (hr : decide (ro < 1) = false) (hq : decide ((7 : Int) < ro) = true) (HC : Hid (∀ W, Calls Tryz.prog 39 #[.int .i64 z] W fun e w' => e = .returned (.int .i64 (K : Int)) ∧ w' = W)) : Calls Tryz.prog 16 #[.int .i64 71, .bool ca, .int .i64 z, .int .i64 ro] w fun e w' => e = .returned (.tuple #[.agg #[.int .i64 0, .int .i64 0, .bool false, .int .i64 0, .int .i64 0, .int .i64 0, .int .i64 0, .int .i64 0, .int .i64 0, .slice none 0 0, .int .i64 0, .slice none 0 0, .string ⟨#[]⟩, .int .i64 0, .slice none 0 0, .int .i64 0, .int .i64 0, .slice none 0 0], .string ⟨#[]⟩, .int .i64 1]) ∧ Below w.heap.size w w' := by
  have kR0 : Hid (Rg.Bk w.heap.size [.int .i64 0, .int .i64 0, .bool false, .int .i64 0, .int .i64 0, .int .i64 0, .int .i64 0, .int .i64 0, .int .i64 0, .slice none 0 0, .int .i64 0, .slice none 0 0, .string ⟨#[]⟩, .int .i64 0, .slice none 0 0, .int .i64 0, .int .i64 0, .slice none 0 0] 29 (w.alloc (.cells #[.int .i64 0, .int .i64 0, .bool false, .int .i64 0, .int .i64 0, .int .i64 0, .int .i64 0, .int .i64 0, .int .i64 0, .slice none 0 0, .int .i64 0, .slice none 0 0, .string ⟨#[]⟩, .int .i64 0, .slice none 0 0, .int .i64 0, .int .i64 0, .slice none 0 0] 29))) := Rg.Bk.new rfl
  have hb0 := Rg.hid (Rg.al1 w (.cells #[.int .i64 0, .int .i64 0, .bool false, .int .i64 0, .int .i64 0, .int .i64 0, .int .i64 0, .int .i64 0, .int .i64 0, .slice none 0 0, .int .i64 0, .slice none 0 0, .string ⟨#[]⟩, .int .i64 0, .slice none 0 0, .int .i64 0, .int .i64 0, .slice none 0 0] 29))
  obtain ⟨R, hR⟩ : ∃ R, R = w.heap.size := ⟨_, rfl⟩
  go_enter Tryz.func16, Tryz.ntmps16
  go_upto_region 1 with fail
  generalize World.alloc _ _ = w1 at *
  rw [← hR] at kR0 ⊢
  have hRw : Hid (w.heap.size ≤ R) := by show _ ≤ _; omega
  clear hR
  obtain ⟨w2, st2, k2, o2⟩ := DH.over (Kp := fun _ => True) (zDH _ w1) (zDH (fun _ => True) w1) kR0.out
  have hres := Rg.hid ((zDH (fun _ => True) w1).load k2.out)
  have hfe : Hid (Below w.heap.size w w2) := hb0.out.trans (o2.out.bel hRw.out)
  clear kR0 hb0 k2 o2
  go_upto_region 2 with (go_at_call 39; refine (HC.out _).mono ?_; rintro e w3 ⟨rfl, hw⟩; obtain rfl := hw.symm)
  go_wp2_with (with_reducible refine is_store (.tmp 8) (.tmp 39) 29 ?_; refine list_store (.tmp 8) (.tmp 39) 29 rfl rfl st2.out ?_)
  exact bodyPost_ret (v := .tuple #[.agg #[.int .i64 0, .int .i64 0, .bool false, .int .i64 0, .int .i64 0, .int .i64 0, .int .i64 0, .int .i64 0, .int .i64 0, .slice none 0 0, .int .i64 0, .slice none 0 0, .string ⟨#[]⟩, .int .i64 0, .slice none 0 0, .int .i64 0, .int .i64 0, .slice none 0 0], .string ⟨#[]⟩, .int .i64 1]) (results_row3 rfl rfl rfl rfl hres.out) rfl ⟨rfl, hfe.out⟩
set_option maxHeartbeats 4000000 in
set_option maxRecDepth 100000 in
theorem rbegin_n3 (ca : Bool) (z ro : Int) (K : Nat) (w : World) (hK : ((K : Int) == 0) = false) (hz : decide ((64 : Int) < z) = true) (HC : Hid (∀ W, Calls Tryz.prog 39 #[.int .i64 z] W fun e w' => e = .returned (.int .i64 (K : Int)) ∧ w' = W)) : Calls Tryz.prog 16 #[.int .i64 103, .bool ca, .int .i64 z, .int .i64 ro] w fun e w' => e = .returned (.tuple #[.agg #[.int .i64 0, .int .i64 0, .bool false, .int .i64 0, .int .i64 0, .int .i64 0, .int .i64 0, .int .i64 0, .int .i64 0, .slice none 0 0, .int .i64 0, .slice none 0 0, .string ⟨#[]⟩, .int .i64 0, .slice none 0 0, .int .i64 0, .int .i64 0, .slice none 0 0], .string ⟨#[]⟩, .int .i64 1]) ∧ Below w.heap.size w w' := by
  have kR0 : Hid (Rg.Bk w.heap.size [.int .i64 0, .int .i64 0, .bool false, .int .i64 0, .int .i64 0, .int .i64 0, .int .i64 0, .int .i64 0, .int .i64 0, .slice none 0 0, .int .i64 0, .slice none 0 0, .string ⟨#[]⟩, .int .i64 0, .slice none 0 0, .int .i64 0, .int .i64 0, .slice none 0 0] 29 (w.alloc (.cells #[.int .i64 0, .int .i64 0, .bool false, .int .i64 0, .int .i64 0, .int .i64 0, .int .i64 0, .int .i64 0, .int .i64 0, .slice none 0 0, .int .i64 0, .slice none 0 0, .string ⟨#[]⟩, .int .i64 0, .slice none 0 0, .int .i64 0, .int .i64 0, .slice none 0 0] 29))) := Rg.Bk.new rfl
  have hb0 := Rg.hid (Rg.al1 w (.cells #[.int .i64 0, .int .i64 0, .bool false, .int .i64 0, .int .i64 0, .int .i64 0, .int .i64 0, .int .i64 0, .int .i64 0, .slice none 0 0, .int .i64 0, .slice none 0 0, .string ⟨#[]⟩, .int .i64 0, .slice none 0 0, .int .i64 0, .int .i64 0, .slice none 0 0] 29))
  obtain ⟨R, hR⟩ : ∃ R, R = w.heap.size := ⟨_, rfl⟩
  go_enter Tryz.func16, Tryz.ntmps16
  go_upto_region 1 with fail
  generalize World.alloc _ _ = w1 at *
  rw [← hR] at kR0 ⊢
  have hRw : Hid (w.heap.size ≤ R) := by show _ ≤ _; omega
  clear hR
  obtain ⟨w2, st2, k2, o2⟩ := DH.over (Kp := fun _ => True) (zDH _ w1) (zDH (fun _ => True) w1) kR0.out
  have hres := Rg.hid ((zDH (fun _ => True) w1).load k2.out)
  have hfe : Hid (Below w.heap.size w w2) := hb0.out.trans (o2.out.bel hRw.out)
  clear kR0 hb0 k2 o2
  go_upto_region 2 with (go_at_call 39; refine (HC.out _).mono ?_; rintro e w3 ⟨rfl, hw⟩; obtain rfl := hw.symm)
  go_wp2_with (with_reducible refine is_store (.tmp 8) (.tmp 39) 29 ?_; refine list_store (.tmp 8) (.tmp 39) 29 rfl rfl st2.out ?_)
  exact bodyPost_ret (v := .tuple #[.agg #[.int .i64 0, .int .i64 0, .bool false, .int .i64 0, .int .i64 0, .int .i64 0, .int .i64 0, .int .i64 0, .int .i64 0, .slice none 0 0, .int .i64 0, .slice none 0 0, .string ⟨#[]⟩, .int .i64 0, .slice none 0 0, .int .i64 0, .int .i64 0, .slice none 0 0], .string ⟨#[]⟩, .int .i64 1]) (results_row3 rfl rfl rfl rfl hres.out) rfl ⟨rfl, hfe.out⟩
theorem gbegin_no (lt : Int) (ca : Bool) (z ro : Int) (w : World) (h : ¬ Tk lt z ro) : Calls Tryz.prog 21 #[.int .i64 lt, .bool ca, .int .i64 z, .int .i64 ro] w fun e w' => e = .returned (.tuple #[.agg #[.int .i64 0, .int .i64 0, .bool false, .int .i64 0, .int .i64 0, .int .i64 0, .int .i64 0, .int .i64 0, .int .i64 0, .slice none 0 0, .int .i64 0, .slice none 0 0, .string ⟨#[]⟩, .int .i64 0, .slice none 0 0, .int .i64 0, .int .i64 0, .slice none 0 0], .string ⟨#[]⟩, .int .i64 1]) ∧ Below w.heap.size w w' := gbegin_no0 lt ca z ro w (gmayBe_no h)
theorem grbegin_no (lt : Int) (ca : Bool) (z ro : Int) (w : World) (h : ¬ Tk lt z ro) : Calls Tryz.prog 16 #[.int .i64 lt, .bool ca, .int .i64 z, .int .i64 ro] w fun e w' => e = .returned (.tuple #[.agg #[.int .i64 0, .int .i64 0, .bool false, .int .i64 0, .int .i64 0, .int .i64 0, .int .i64 0, .int .i64 0, .int .i64 0, .slice none 0 0, .int .i64 0, .slice none 0 0, .string ⟨#[]⟩, .int .i64 0, .slice none 0 0, .int .i64 0, .int .i64 0, .slice none 0 0], .string ⟨#[]⟩, .int .i64 1]) ∧ Below w.heap.size w w' := by
  by_cases g : lt = 103 ∨ lt = 71
  · by_cases hc : Gf.code z = 0
    · have hK : ((Gf.code z : Int) == 0) = true := by simp [hc]
      rcases g with rfl | rfl
      · exact rbegin_n2_103 ca z ro _ w hK (rgcode_any z)
      · exact rbegin_n2_71 ca z ro _ w hK (rgcode_any z)
    have hK : ((Gf.code z : Int) == 0) = false := by simp; omega
    by_cases hz : lt = 103 ∧ 64 < z
    · obtain ⟨rfl, hz⟩ := hz
      exact rbegin_n3 ca z ro _ w hK (by simpa using hz) (rgcode_any z)
    · have hi : ¬ (1 ≤ ro ∧ ro ≤ 7) := fun hi => h ⟨g, hc, fun e => by omega, hi.1, hi.2⟩
      by_cases h1 : ro < 1
      · rcases g with rfl | rfl
        · exact rbegin_n4_103 ca z ro _ w hK (by simp; omega) (by simpa using h1) (rgcode_any z)
        · exact rbegin_n4_71 ca z ro _ w hK (by simpa using h1) (rgcode_any z)
      · rcases g with rfl | rfl
        · exact rbegin_n5_103 ca z ro _ w hK (by simp; omega) (by simp; omega) (by simp; omega) (rgcode_any z)
        · exact rbegin_n5_71 ca z ro _ w hK (by simp; omega) (by simp; omega) (rgcode_any z)
  · exact rbegin_n1 lt ca z ro w (by simp; omega) (by simp; omega)
set_option maxHeartbeats 1000000 in
set_option maxRecDepth 100000 in
theorem rcontrol_go (h l : Int) (x : ByteArray) (w : World) (HW : Hid (∀ W, Calls Tryz.prog 110 #[.agg #[.int .i64 0, .int .i64 h, .int .i64 l, .int .i64 0, .string ⟨#[]⟩]] W fun e w' => e = .returned (.tuple #[.string x, .int .i64 0]) ∧ Below W.heap.size W w')) :
    Calls Tryz.prog 80 #[.int .i64 h, .int .i64 l] w fun e w' => e = .returned (.string x) ∧ Below w.heap.size w w' := by
  go_enter Tryz.func80, Tryz.ntmps80
  go_wp2_with (go_at_call 110; refine (HW.out _).mono ?_; rintro e w1 ⟨rfl, b1⟩)
  go_ret
  exact ⟨rfl, b1⟩
theorem rcontrol_any (h l : Int) (h1 : 0 ≤ h) (h2 : h ≤ 7) (l1 : 0 ≤ l) (l2 : l ≤ 7) (w : World) : Calls Tryz.prog 80 #[.int .i64 h, .int .i64 l] w fun e w' => e = .returned (.string ⟨(Gp.ctrl h l).toArray⟩) ∧ Below w.heap.size w w' :=
  rcontrol_go h l _ w (rwrite_yes 0 h l 0 ⟨#[]⟩ (Gp.cf_ok h1 h2 l1 l2))
set_option maxHeartbeats 1000000 in
set_option maxRecDepth 100000 in
theorem ropening_0 (lt : Int) (ca : Bool) (z ro : Int) (x : ByteArray) (w : World) (HC : Hid (∀ W, Calls Tryz.prog 80 #[.int .i64 7, .int .i64 ro] W fun e w' => e = .returned (.string x) ∧ Below W.heap.size W w')) :
    Calls Tryz.prog 40 #[.agg #[.int .i64 lt, .int .i64 1, .bool ca, .int .i64 0, .int .i64 z, .int .i64 ro, .int .i64 0, .int .i64 0, .int .i64 0, .slice none 0 0, .int .i64 1, .slice none 0 0, .string ⟨#[]⟩, .int .i64 0, .slice none 0 0, .int .i64 0, .int .i64 0, .slice none 0 0], .int .i64 0] w fun e w' => e = .returned (.string x) ∧ Below w.heap.size w w' := by
  have hb := Rg.hid (Rg.al1 w (.cells #[.int .i64 lt, .int .i64 1, .bool ca, .int .i64 0, .int .i64 z, .int .i64 ro, .int .i64 0, .int .i64 0, .int .i64 0, .slice none 0 0, .int .i64 1, .slice none 0 0, .string ⟨#[]⟩, .int .i64 0, .slice none 0 0, .int .i64 0, .int .i64 0, .slice none 0 0] 29))
  go_enter Tryz.func40, Tryz.ntmps40
  go_wp2_with (go_at_call 80; refine (HC.out _).mono ?_; rintro e w1 ⟨rfl, b1⟩)
  go_ret
  exact ⟨rfl, Rg.chain hb.out b1⟩
set_option maxHeartbeats 4000000 in
set_option maxRecDepth 100000 in
theorem rbegin_yes_103 (ca : Bool) (z ro : Int) (K : Nat) (x : ByteArray) (w : World) (hK : ((K : Int) == 0) = false) (hz : decide ((64 : Int) < z) = false) (hr : decide (ro < 1) = false) (hq : decide ((7 : Int) < ro) = false) (HC : Hid (∀ W, Calls Tryz.prog 39 #[.int .i64 z] W fun e w' => e = .returned (.int .i64 (K : Int)) ∧ w' = W)) (HO : Hid (∀ W, Calls Tryz.prog 40 #[.agg #[.int .i64 103, .int .i64 1, .bool ca, .int .i64 0, .int .i64 z, .int .i64 ro, .int .i64 0, .int .i64 0, .int .i64 0, .slice none 0 0, .int .i64 1, .slice none 0 0, .string ⟨#[]⟩, .int .i64 0, .slice none 0 0, .int .i64 0, .int .i64 0, .slice none 0 0], .int .i64 0] W fun e w' => e = .returned (.string x) ∧ Below W.heap.size W w')) :
    Calls Tryz.prog 16 #[.int .i64 103, .bool ca, .int .i64 z, .int .i64 ro] w fun e w' => e = .returned (.tuple #[.agg #[.int .i64 103, .int .i64 1, .bool ca, .int .i64 0, .int .i64 z, .int .i64 ro, .int .i64 0, .int .i64 0, .int .i64 0, .slice none 0 0, .int .i64 1, .slice none 0 0, .string ⟨#[]⟩, .int .i64 0, .slice none 0 0, .int .i64 0, .int .i64 0, .slice none 0 0], .string x, .int .i64 0]) ∧ Below w.heap.size w w' := by
  have kR0 : Hid (Rg.Bk w.heap.size [.int .i64 0, .int .i64 0, .bool false, .int .i64 0, .int .i64 0, .int .i64 0, .int .i64 0, .int .i64 0, .int .i64 0, .slice none 0 0, .int .i64 0, .slice none 0 0, .string ⟨#[]⟩, .int .i64 0, .slice none 0 0, .int .i64 0, .int .i64 0, .slice none 0 0] 29 (w.alloc (.cells #[.int .i64 0, .int .i64 0, .bool false, .int .i64 0, .int .i64 0, .int .i64 0, .int .i64 0, .int .i64 0, .int .i64 0, .slice none 0 0, .int .i64 0, .slice none 0 0, .string ⟨#[]⟩, .int .i64 0, .slice none 0 0, .int .i64 0, .int .i64 0, .slice none 0 0] 29))) := Rg.Bk.new rfl
  have hb0 := Rg.hid (Rg.al1 w (.cells #[.int .i64 0, .int .i64 0, .bool false, .int .i64 0, .int .i64 0, .int .i64 0, .int .i64 0, .int .i64 0, .int .i64 0, .slice none 0 0, .int .i64 0, .slice none 0 0, .string ⟨#[]⟩, .int .i64 0, .slice none 0 0, .int .i64 0, .int .i64 0, .slice none 0 0] 29))
  obtain ⟨R, hR⟩ : ∃ R, R = w.heap.size := ⟨_, rfl⟩
  have hD : Hid (∀ W : World, DH (fun _ => True) W (Gp.begin_ 103 ca z ro) #[.int .i64 103, .int .i64 1, .bool ca, .int .i64 0, .int .i64 z, .int .i64 ro, .int .i64 0, .int .i64 0, .int .i64 0, .slice none 0 0, .int .i64 1, .slice none 0 0, .string ⟨#[]⟩, .int .i64 0, .slice none 0 0, .int .i64 0, .int .i64 0, .slice none 0 0]) := fun W => ⟨Pl.none_, rfl, DR.zero W 103 ca z ro⟩
  go_enter Tryz.func16, Tryz.ntmps16
  go_upto_region 1 with fail
  generalize World.alloc _ _ = w1 at *
  rw [← hR] at kR0 ⊢
  have hRw : Hid (w.heap.size ≤ R) := by show _ ≤ _; omega
  clear hR
  have kE0 : Hid (Rg.Bk w1.heap.size [.int .i64 103, .int .i64 1, .bool ca, .int .i64 0, .int .i64 z, .int .i64 ro, .int .i64 0, .int .i64 0, .int .i64 0, .slice none 0 0, .int .i64 1, .slice none 0 0, .string ⟨#[]⟩, .int .i64 0, .slice none 0 0, .int .i64 0, .int .i64 0, .slice none 0 0] 29 (w1.alloc (.cells #[.int .i64 103, .int .i64 1, .bool ca, .int .i64 0, .int .i64 z, .int .i64 ro, .int .i64 0, .int .i64 0, .int .i64 0, .slice none 0 0, .int .i64 1, .slice none 0 0, .string ⟨#[]⟩, .int .i64 0, .slice none 0 0, .int .i64 0, .int .i64 0, .slice none 0 0] 29))) := Rg.Bk.new rfl
  have b2 := Rg.hid (Rg.al1 w1 (.cells #[.int .i64 103, .int .i64 1, .bool ca, .int .i64 0, .int .i64 z, .int .i64 ro, .int .i64 0, .int .i64 0, .int .i64 0, .slice none 0 0, .int .i64 1, .slice none 0 0, .string ⟨#[]⟩, .int .i64 0, .slice none 0 0, .int .i64 0, .int .i64 0, .slice none 0 0] 29))
  go_upto_region 4 with (go_at_call 39; refine (HC.out _).mono ?_; rintro e w3 ⟨rfl, hw⟩; obtain rfl := hw.symm)
  generalize World.alloc _ _ = w2 at *
  obtain ⟨eb, heb⟩ : ∃ eb, eb = w1.heap.size := ⟨_, rfl⟩
  rw [← heb] at kE0 ⊢
  have hRe : Hid (R ≠ eb) := by show _ ≠ _; rw [heb]; have := kR0.out.lt; omega
  clear heb
  have kR2 := Rg.hid (kR0.out.below b2.out kR0.out.lt)
  have hb2 := Rg.hid (Rg.chain hb0.out b2.out)
  obtain ⟨CD, hCD⟩ : ∃ CD : Array Value, CD = #[.int .i64 103, .int .i64 1, .bool ca, .int .i64 0, .int .i64 z, .int .i64 ro, .int .i64 0, .int .i64 0, .int .i64 0, .slice none 0 0, .int .i64 1, .slice none 0 0, .string ⟨#[]⟩, .int .i64 0, .slice none 0 0, .int .i64 0, .int .i64 0, .slice none 0 0] := ⟨_, rfl⟩
  rw [← hCD] at HO hD ⊢
  have eL : [.int .i64 103, .int .i64 1, .bool ca, .int .i64 0, .int .i64 z, .int .i64 ro, .int .i64 0, .int .i64 0, .int .i64 0, .slice none 0 0, .int .i64 1, .slice none 0 0, .string ⟨#[]⟩, .int .i64 0, .slice none 0 0, .int .i64 0, .int .i64 0, .slice none 0 0] = CD.toList := by rw [hCD]
  rw [eL] at kE0
  replace hD := Rg.hid (hD.out w2)
  replace hCD := Rg.hid hCD
  clear eL kR0 hb0 b2
  have HO1 := Rg.hid (HO.out w2.drew)
  clear HO HC
  refine wp_region_held_drew (S := (fun (w' : World) => Rg.Bk eb CD.toList 29 w')) (by kernel_rfl) ?_ (fun hH0 => ?_)
  · exact kE0.out
  refine wpAnyH_take (i := 0) (oi := { dst := some 45, op := _, type := _, pos := _, after := _, guard := _ }) (v := .agg CD) rfl (by kernel_rfl) (by kernel_rfl) (by kernel_rfl) (fun _ _ _ h => h) (Or.inl ⟨by rfl, fun w hSw => exec_load_row _ _ rfl rfl (hD.out.load hSw)⟩) (by assumption) ?_
  simp only [Act.put, List.setIfInBounds_toArray, List.set_cons_zero, List.set_cons_succ]
  refine wpAnyH_take (i := 1) (oi := { dst := some 46, op := _, type := _, pos := _, after := _, guard := _ }) (v := .agg CD) rfl (by kernel_rfl) (by kernel_rfl) (by kernel_rfl) (fun _ _ _ h => h) (Or.inl ⟨by rfl, fun w hSw => exec_load_row _ _ rfl rfl (hD.out.load hSw)⟩) (by assumption) ?_
  simp only [Act.put, List.setIfInBounds_toArray, List.set_cons_zero, List.set_cons_succ]
  refine wpAnyH_ready (rs := [2]) (by kernel_rfl) (by simp) ?_
  refine AllReadyH.cons (o := { dst := some 47, op := _, type := _, pos := _, after := _, guard := _ }) rfl (fun K hK => ?_) AllReadyH.nil
  go_simp
  go_at_call 40; refine (HO1.out).mono ?_; rintro e w5 ⟨rfl, hb5⟩
  refine hK.out _ _ ?_ (fun hH7 => ?_)
  · exact kE0.out.drew.below hb5 kE0.out.lt
  clear hK K hH0
  try simp only [Act.put, List.setIfInBounds_toArray, List.set_cons_zero, List.set_cons_succ]
  obtain ⟨w6, hst, kR6, oR6⟩ := DH.over (Kp := fun _ => True) (hD.out.below ((Below.drew (Below.refl _ _)).trans hb5)) (zDH (fun _ => True) w5) ((kR2.out.drew.below hb5 kR2.out.lt))
  refine wpAnyH_ready (rs := [3]) (by kernel_rfl) (by simp) ?_
  refine AllReadyH.cons (o := { dst := none, op := _, type := _, pos := _, after := _, guard := _ }) rfl (fun K hK => ?_) AllReadyH.nil
  refine step_store_row (by rfl) (.tmp 8) (.tmp 45) 29 (by rfl) (by rfl) (by rfl) hst.out ?_
  refine hK.out _ _ ?_ (fun hH8 => ?_)
  · exact ((kE0.out.drew.below hb5 kE0.out.lt)).same (oR6.out.block eb (fun e => hRe.out e.symm))
  clear hK K hH7
  simp only [Act.put]
  refine wpAnyH_take (i := 4) (oi := { dst := some 9, op := _, type := _, pos := _, after := _, guard := _ }) (v := ?_) rfl (by kernel_rfl) (by kernel_rfl) (by kernel_rfl) (fun _ _ _ h => h) (Or.inl ⟨by rfl, ?_⟩) (by assumption) ?_
  rotate_left
  · (intro w hSw; clear hSw; go_simp); (try with_reducible rfl)
  simp only [Act.put, List.setIfInBounds_toArray, List.set_cons_zero, List.set_cons_succ]
  refine wpAnyH_take (i := 5) (oi := { dst := some 10, op := _, type := _, pos := _, after := _, guard := _ }) (v := ?_) rfl (by kernel_rfl) (by kernel_rfl) (by kernel_rfl) (fun _ _ _ h => h) (Or.inl ⟨by rfl, ?_⟩) (by assumption) ?_
  rotate_left
  · (intro w hSw; clear hSw; go_simp); (try with_reducible rfl)
  simp only [Act.put, List.setIfInBounds_toArray, List.set_cons_zero, List.set_cons_succ]
  refine wpAnyH_done (by kernel_rfl) ?_ _
  have hres := hD.out.load kR6.out
  have hbel : Below w.heap.size w w6 := (Rg.chain hb2.out ((Below.drew (Below.refl _ _)).trans hb5)).trans (oR6.out.bel hRw.out)
  clear hst kR6 oR6 hH8 hb5 kE0 kR2
  go_wp2
  exact bodyPost_ret (v := .tuple #[.agg CD, .string x, .int .i64 0]) (results_row3 rfl rfl rfl rfl hres) rfl ⟨by rw [hCD.out], hbel⟩
set_option maxHeartbeats 4000000 in
set_option maxRecDepth 100000 in
theorem rbegin_yes_71 (ca : Bool) (z ro : Int) (K : Nat) (x : ByteArray) (w : World) (hK : ((K : Int) == 0) = false) (hr : decide (ro < 1) = false) (hq : decide ((7 : Int) < ro) = false) (HC : Hid (∀ W, Calls Tryz.prog 39 #[.int .i64 z] W fun e w' => e = .returned (.int .i64 (K : Int)) ∧ w' = W)) (HO : Hid (∀ W, Calls Tryz.prog 40 #[.agg #[.int .i64 71, .int .i64 1, .bool ca, .int .i64 0, .int .i64 z, .int .i64 ro, .int .i64 0, .int .i64 0, .int .i64 0, .slice none 0 0, .int .i64 1, .slice none 0 0, .string ⟨#[]⟩, .int .i64 0, .slice none 0 0, .int .i64 0, .int .i64 0, .slice none 0 0], .int .i64 0] W fun e w' => e = .returned (.string x) ∧ Below W.heap.size W w')) :
    Calls Tryz.prog 16 #[.int .i64 71, .bool ca, .int .i64 z, .int .i64 ro] w fun e w' => e = .returned (.tuple #[.agg #[.int .i64 71, .int .i64 1, .bool ca, .int .i64 0, .int .i64 z, .int .i64 ro, .int .i64 0, .int .i64 0, .int .i64 0, .slice none 0 0, .int .i64 1, .slice none 0 0, .string ⟨#[]⟩, .int .i64 0, .slice none 0 0, .int .i64 0, .int .i64 0, .slice none 0 0], .string x, .int .i64 0]) ∧ Below w.heap.size w w' := by
  have kR0 : Hid (Rg.Bk w.heap.size [.int .i64 0, .int .i64 0, .bool false, .int .i64 0, .int .i64 0, .int .i64 0, .int .i64 0, .int .i64 0, .int .i64 0, .slice none 0 0, .int .i64 0, .slice none 0 0, .string ⟨#[]⟩, .int .i64 0, .slice none 0 0, .int .i64 0, .int .i64 0, .slice none 0 0] 29 (w.alloc (.cells #[.int .i64 0, .int .i64 0, .bool false, .int .i64 0, .int .i64 0, .int .i64 0, .int .i64 0, .int .i64 0, .int .i64 0, .slice none 0 0, .int .i64 0, .slice none 0 0, .string ⟨#[]⟩, .int .i64 0, .slice none 0 0, .int .i64 0, .int .i64 0, .slice none 0 0] 29))) := Rg.Bk.new rfl
  have hb0 := Rg.hid (Rg.al1 w (.cells #[.int .i64 0, .int .i64 0, .bool false, .int .i64 0, .int .i64 0, .int .i64 0, .int .i64 0, .int .i64 0, .int .i64 0, .slice none 0 0, .int .i64 0, .slice none 0 0, .string ⟨#[]⟩, .int .i64 0, .slice none 0 0, .int .i64 0, .int .i64 0, .slice none 0 0] 29))
  obtain ⟨R, hR⟩ : ∃ R, R = w.heap.size := ⟨_, rfl⟩
  have hD : Hid (∀ W : World, DH (fun _ => True) W (Gp.begin_ 71 ca z ro) #[.int .i64 71, .int .i64 1, .bool ca, .int .i64 0, .int .i64 z, .int .i64 ro, .int .i64 0, .int .i64 0, .int .i64 0, .slice none 0 0, .int .i64 1, .slice none 0 0, .string ⟨#[]⟩, .int .i64 0, .slice none 0 0, .int .i64 0, .int .i64 0, .slice none 0 0]) := fun W => ⟨Pl.none_, rfl, DR.zero W 71 ca z ro⟩
  go_enter Tryz.func16, Tryz.ntmps16
  go_upto_region 1 with fail
  generalize World.alloc _ _ = w1 at *
  rw [← hR] at kR0 ⊢
  have hRw : Hid (w.heap.size ≤ R) := by show _ ≤ _; omega
  clear hR
  have kE0 : Hid (Rg.Bk w1.heap.size [.int .i64 71, .int .i64 1, .bool ca, .int .i64 0, .int .i64 z, .int .i64 ro, .int .i64 0, .int .i64 0, .int .i64 0, .slice none 0 0, .int .i64 1, .slice none 0 0, .string ⟨#[]⟩, .int .i64 0, .slice none 0 0, .int .i64 0, .int .i64 0, .slice none 0 0] 29 (w1.alloc (.cells #[.int .i64 71, .int .i64 1, .bool ca, .int .i64 0, .int .i64 z, .int .i64 ro, .int .i64 0, .int .i64 0, .int .i64 0, .slice none 0 0, .int .i64 1, .slice none 0 0, .string ⟨#[]⟩, .int .i64 0, .slice none 0 0, .int .i64 0, .int .i64 0, .slice none 0 0] 29))) := Rg.Bk.new rfl
  have b2 := Rg.hid (Rg.al1 w1 (.cells #[.int .i64 71, .int .i64 1, .bool ca, .int .i64 0, .int .i64 z, .int .i64 ro, .int .i64 0, .int .i64 0, .int .i64 0, .slice none 0 0, .int .i64 1, .slice none 0 0, .string ⟨#[]⟩, .int .i64 0, .slice none 0 0, .int .i64 0, .int .i64 0, .slice none 0 0] 29))
  go_upto_region 4 with (go_at_call 39; refine (HC.out _).mono ?_; rintro e w3 ⟨rfl, hw⟩; obtain rfl := hw.symm)
  generalize World.alloc _ _ = w2 at *
  obtain ⟨eb, heb⟩ : ∃ eb, eb = w1.heap.size := ⟨_, rfl⟩
  rw [← heb] at kE0 ⊢
  have hRe : Hid (R ≠ eb) := by show _ ≠ _; rw [heb]; have := kR0.out.lt; omega
  clear heb
  have kR2 := Rg.hid (kR0.out.below b2.out kR0.out.lt)
  have hb2 := Rg.hid (Rg.chain hb0.out b2.out)
  obtain ⟨CD, hCD⟩ : ∃ CD : Array Value, CD = #[.int .i64 71, .int .i64 1, .bool ca, .int .i64 0, .int .i64 z, .int .i64 ro, .int .i64 0, .int .i64 0, .int .i64 0, .slice none 0 0, .int .i64 1, .slice none 0 0, .string ⟨#[]⟩, .int .i64 0, .slice none 0 0, .int .i64 0, .int .i64 0, .slice none 0 0] := ⟨_, rfl⟩
  rw [← hCD] at HO hD ⊢
  have eL : [.int .i64 71, .int .i64 1, .bool ca, .int .i64 0, .int .i64 z, .int .i64 ro, .int .i64 0, .int .i64 0, .int .i64 0, .slice none 0 0, .int .i64 1, .slice none 0 0, .string ⟨#[]⟩, .int .i64 0, .slice none 0 0, .int .i64 0, .int .i64 0, .slice none 0 0] = CD.toList := by rw [hCD]
  rw [eL] at kE0
  replace hD := Rg.hid (hD.out w2)
  replace hCD := Rg.hid hCD
  clear eL kR0 hb0 b2
  have HO1 := Rg.hid (HO.out w2.drew)
  clear HO HC
  refine wp_region_held_drew (S := (fun (w' : World) => Rg.Bk eb CD.toList 29 w')) (by kernel_rfl) ?_ (fun hH0 => ?_)
  · exact kE0.out
  refine wpAnyH_take (i := 0) (oi := { dst := some 45, op := _, type := _, pos := _, after := _, guard := _ }) (v := .agg CD) rfl (by kernel_rfl) (by kernel_rfl) (by kernel_rfl) (fun _ _ _ h => h) (Or.inl ⟨by rfl, fun w hSw => exec_load_row _ _ rfl rfl (hD.out.load hSw)⟩) (by assumption) ?_
  simp only [Act.put, List.setIfInBounds_toArray, List.set_cons_zero, List.set_cons_succ]
  refine wpAnyH_take (i := 1) (oi := { dst := some 46, op := _, type := _, pos := _, after := _, guard := _ }) (v := .agg CD) rfl (by kernel_rfl) (by kernel_rfl) (by kernel_rfl) (fun _ _ _ h => h) (Or.inl ⟨by rfl, fun w hSw => exec_load_row _ _ rfl rfl (hD.out.load hSw)⟩) (by assumption) ?_
  simp only [Act.put, List.setIfInBounds_toArray, List.set_cons_zero, List.set_cons_succ]
  refine wpAnyH_ready (rs := [2]) (by kernel_rfl) (by simp) ?_
  refine AllReadyH.cons (o := { dst := some 47, op := _, type := _, pos := _, after := _, guard := _ }) rfl (fun K hK => ?_) AllReadyH.nil
  go_simp
  go_at_call 40; refine (HO1.out).mono ?_; rintro e w5 ⟨rfl, hb5⟩
  refine hK.out _ _ ?_ (fun hH7 => ?_)
  · exact kE0.out.drew.below hb5 kE0.out.lt
  clear hK K hH0
  try simp only [Act.put, List.setIfInBounds_toArray, List.set_cons_zero, List.set_cons_succ]
  obtain ⟨w6, hst, kR6, oR6⟩ := DH.over (Kp := fun _ => True) (hD.out.below ((Below.drew (Below.refl _ _)).trans hb5)) (zDH (fun _ => True) w5) ((kR2.out.drew.below hb5 kR2.out.lt))
  refine wpAnyH_ready (rs := [3]) (by kernel_rfl) (by simp) ?_
  refine AllReadyH.cons (o := { dst := none, op := _, type := _, pos := _, after := _, guard := _ }) rfl (fun K hK => ?_) AllReadyH.nil
  refine step_store_row (by rfl) (.tmp 8) (.tmp 45) 29 (by rfl) (by rfl) (by rfl) hst.out ?_
  refine hK.out _ _ ?_ (fun hH8 => ?_)
  · exact ((kE0.out.drew.below hb5 kE0.out.lt)).same (oR6.out.block eb (fun e => hRe.out e.symm))
  clear hK K hH7
  simp only [Act.put]
  refine wpAnyH_take (i := 4) (oi := { dst := some 9, op := _, type := _, pos := _, after := _, guard := _ }) (v := ?_) rfl (by kernel_rfl) (by kernel_rfl) (by kernel_rfl) (fun _ _ _ h => h) (Or.inl ⟨by rfl, ?_⟩) (by assumption) ?_
  rotate_left
  · (intro w hSw; clear hSw; go_simp); (try with_reducible rfl)
  simp only [Act.put, List.setIfInBounds_toArray, List.set_cons_zero, List.set_cons_succ]
  refine wpAnyH_take (i := 5) (oi := { dst := some 10, op := _, type := _, pos := _, after := _, guard := _ }) (v := ?_) rfl (by kernel_rfl) (by kernel_rfl) (by kernel_rfl) (fun _ _ _ h => h) (Or.inl ⟨by rfl, ?_⟩) (by assumption) ?_
  rotate_left
  · (intro w hSw; clear hSw; go_simp); (try with_reducible rfl)
  simp only [Act.put, List.setIfInBounds_toArray, List.set_cons_zero, List.set_cons_succ]
  refine wpAnyH_done (by kernel_rfl) ?_ _
  have hres := hD.out.load kR6.out
  have hbel : Below w.heap.size w w6 := (Rg.chain hb2.out ((Below.drew (Below.refl _ _)).trans hb5)).trans (oR6.out.bel hRw.out)
  clear hst kR6 oR6 hH8 hb5 kE0 kR2
  go_wp2
  exact bodyPost_ret (v := .tuple #[.agg CD, .string x, .int .i64 0]) (results_row3 rfl rfl rfl rfl hres) rfl ⟨by rw [hCD.out], hbel⟩
theorem grbegin_yes (lt : Int) (ca : Bool) (z ro : Int) (w : World) (h : Tk lt z ro) : Calls Tryz.prog 16 #[.int .i64 lt, .bool ca, .int .i64 z, .int .i64 ro] w fun e w' => e = .returned (.tuple #[.agg #[.int .i64 lt, .int .i64 1, .bool ca, .int .i64 0, .int .i64 z, .int .i64 ro, .int .i64 0, .int .i64 0, .int .i64 0, .slice none 0 0, .int .i64 1, .slice none 0 0, .string ⟨#[]⟩, .int .i64 0, .slice none 0 0, .int .i64 0, .int .i64 0, .slice none 0 0], .string ⟨(Gp.ctrl 7 ro).toArray⟩, .int .i64 0]) ∧ Below w.heap.size w w' := by
  obtain ⟨h1, h2, h3, h4, h5⟩ := h
  have hK : ((Gf.code z : Int) == 0) = false := by simp; omega
  rcases h1 with rfl | rfl
  · exact rbegin_yes_103 ca z ro _ _ w hK (by have := h3 rfl; simp; omega) (by simp; omega) (by simp; omega) (rgcode_any z) (fun W => ropening_0 103 ca z ro _ W (rcontrol_any 7 ro (by decide) (by decide) (by omega) h5))
  · exact rbegin_yes_71 ca z ro _ _ w hK (by simp; omega) (by simp; omega) (rgcode_any z) (fun W => ropening_0 71 ca z ro _ W (rcontrol_any 7 ro (by decide) (by decide) (by omega) h5))
end Go.Proofs.YtomldoijcclhhaaGreat
