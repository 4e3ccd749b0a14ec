/-
  Walks of layer 11: Write.
-/
import Derived.Test.YtfiffbohhhehkaaGreatBuFrA
import Derived.Test.YtfiffbohhhehkaaGreatBuBase
namespace Go.Proofs.YtfiffbohhhehkaaGreat
open Go.RowKit
namespace Gf
/-- A packet as a value. -/
def frv (t h l z : Int) (d : ByteArray) : Value := .agg #[.int .i64 t, .int .i64 h, .int .i64 l, .int .i64 z, .string d]
theorem control_nat (c : Nat) : ∃ s : Nat, Chk.control (c : Int) = (s : Int) ∧ s < 65536 := ⟨(Chk.control (c : Int)).toNat, by have := control_range c; omega, by have := control_range c; omega⟩
theorem packet_nat (l : List UInt8) (c : Nat) : ∃ s : Nat, Chk.packet l (c : Int) = (s : Int) ∧ s < 65536 := ⟨(Chk.packet l (c : Int)).toNat, by have := packet_range l c; omega, by have := packet_range l c; omega⟩
end Gf
/-- The cells of a packet's block. -/
def KF (b : Nat) (t h l z : Int) (d : ByteArray) (W : World) : Prop := Rg.Bk b [.int .i64 t, .int .i64 h, .int .i64 l, .int .i64 z, .string d] 80 W

set_option maxHeartbeats 1000000 in
theorem withBody_any (t h l : Nat) (z : Int) (d bd : ByteArray) (ht : t < 4) (hh : h < 8) (hl : l < 8) (hb : bd.size ≤ 5000) (s : Nat) (hs : Chk.packet bd.data.toList ((t * 64 + h * 8 + l : Nat) : Int) = (s : Int)) (hs2 : s < 65536) (w : World) :
    Calls Tryz.prog 118 #[.agg #[.int .i64 t, .int .i64 h, .int .i64 l, .int .i64 z, .string d], .string bd] w fun e w' => e = .returned (.string ⟨(Gf.head (Gf.code z) s (t * 64 + h * 8 + l) ++ bd.data.toList).toArray⟩) ∧ Below w.heap.size w w' := by
  have bw := Gf.below1 w (.cells #[.int .i64 t, .int .i64 h, .int .i64 l, .int .i64 z, .string d] 80)
  have k0 : Rg.Bk w.heap.size [.int .i64 t, .int .i64 h, .int .i64 l, .int .i64 z, .string d] 80 (w.alloc (.cells #[.int .i64 t, .int .i64 h, .int .i64 l, .int .i64 z, .string d] 80)) := Rg.Bk.new rfl
  have HC : Hid (∀ W, Below w.heap.size w W → Rg.Bk w.heap.size [.int .i64 t, .int .i64 h, .int .i64 l, .int .i64 z, .string d] 80 W → Calls Tryz.prog 117 #[.agg #[.int .i64 t, .int .i64 h, .int .i64 l, .int .i64 z, .string d]] W fun e w' => e = .returned (.int .i64 ((t * 64 + h * 8 + l : Nat) : Int)) ∧ Below w.heap.size w w' ∧ Rg.Bk w.heap.size [.int .i64 t, .int .i64 h, .int .i64 l, .int .i64 z, .string d] 80 w') := fun W hW hk =>
    (gctl_any t h l ht hh hl z d W).mono fun e w' ⟨a, b⟩ => ⟨a, hW.trans (b.mono hW.size), hk.below b hk.lt⟩
  have hc : t * 64 + h * 8 + l < 256 := by omega
  generalize t * 64 + h * 8 + l = c at *
  have HK : Hid (∀ W, Calls Tryz.prog 53 #[.int .i64 z] W fun e w' => e = .returned (.int .i64 (Gf.code z)) ∧ w' = W) := fun W => gcode_any z W
  have HP : Hid (∀ W, Calls Tryz.prog 123 #[.string bd, .int .i64 c] W fun e w' => e = .returned (.int .i64 s) ∧ w' = W) := fun W => by have := packet_any bd c W (by unfold maxLen; omega); rwa [hs] at this
  have hcl := Gf.code_le z
  have HT : Hid (∀ W, Below w.heap.size w W → Calls Tryz.prog 98 #[.agg #[.int .i64 (Gf.code z), .int .i64 s, .int .i64 c]] W fun e w' => e = .returned (.string ⟨(Gf.head (Gf.code z) s c).toArray⟩) ∧ Below w.heap.size w w') := fun W hW =>
    (gtext_any (Gf.code z) s c (by omega) hs2 hc W).mono fun e w' ⟨a, b⟩ => ⟨a, hW.trans (b.mono hW.size)⟩
  have hres : Hid ((⟨(Gf.head (Gf.code z) s c).toArray⟩ : ByteArray) ++ bd = ⟨(Gf.head (Gf.code z) s c ++ bd.data.toList).toArray⟩) := Gf.ba_app _ bd.data.toList
  have hsz : (⟨(Gf.head (Gf.code z) s c).toArray⟩ : ByteArray).size = 6 := rfl
  generalize (⟨(Gf.head (Gf.code z) s c).toArray⟩ : ByteArray) = H at *
  generalize Gf.code z = k at *
  have c0 := k0.cell
  go_enter Tryz.func118, Tryz.ntmps118
  go_wp2_with (first
    | (go_at_call 117; refine (HC.out _ bw k0).mono ?_; rintro e w1 ⟨rfl, b1, k1⟩; have c1 := k1.cell)
    | (go_at_call 53; refine (HK.out _).mono ?_; rintro e w2 ⟨rfl, rfl⟩)
    | (go_at_call 123; refine (HP.out _).mono ?_; rintro e w2 ⟨rfl, rfl⟩)
    | (go_at_call 98; refine (HT.out _ (by assumption)).mono ?_; rintro e w2 ⟨rfl, b2⟩))
  go_ret
  exact ⟨ret_s hres.out, b2⟩
/-- The refusals of Write. -/
def Refuses (t h l z : Int) (d : ByteArray) : Prop := ∀ w : World, Calls Tryz.prog 96 #[.agg #[.int .i64 t, .int .i64 h, .int .i64 l, .int .i64 z, .string d]] w fun e w' => e = .returned (.tuple #[.string ⟨#[]⟩, .int .i64 1]) ∧ Below w.heap.size w w'
theorem Gf.beq0 {a b : Int} (h : ¬ a = b) : (a == b) = false := beq_eq_false_iff_ne.2 h
set_option maxHeartbeats 1000000 in
theorem write_h (t h l z : Int) (d : ByteArray) (hp : ¬ (0 ≤ h ∧ h ≤ 7)) : Refuses t h l z d := by
  intro w
  have HI : Hid (∀ W, Calls Tryz.prog 116 #[.int .i64 h] W fun e w' => e = .returned (.bool false) ∧ w' = W) := fun W => by have := isPart_any h W; rwa [decide_eq_false hp] at this
  have bw := Gf.below1 w (.cells #[.int .i64 t, .int .i64 h, .int .i64 l, .int .i64 z, .string d] 80)
  clear hp
  go_enter Tryz.func96, Tryz.ntmps96
  go_wp2_with (go_at_call 116; refine (HI.out _).mono ?_; rintro e w2 ⟨rfl, rfl⟩)
  go_ret2
  exact ⟨rfl, bw⟩
set_option maxHeartbeats 1000000 in
theorem write_l (t h l z : Int) (d : ByteArray) (hp : 0 ≤ h ∧ h ≤ 7) (lp : ¬ (0 ≤ l ∧ l ≤ 7)) : Refuses t h l z d := by
  intro w
  have HI : Hid (∀ W, Calls Tryz.prog 116 #[.int .i64 h] W fun e w' => e = .returned (.bool true) ∧ w' = W) := fun W => by have := isPart_any h W; rwa [decide_eq_true hp] at this
  have LI : Hid (∀ W, Calls Tryz.prog 116 #[.int .i64 l] W fun e w' => e = .returned (.bool false) ∧ w' = W) := fun W => by have := isPart_any l W; rwa [decide_eq_false lp] at this
  have bw := Gf.below1 w (.cells #[.int .i64 t, .int .i64 h, .int .i64 l, .int .i64 z, .string d] 80)
  clear hp lp
  go_enter Tryz.func96, Tryz.ntmps96
  go_wp2_with (go_at_call 116; (first | with_reducible refine (HI.out _).mono ?_ | with_reducible refine (LI.out _).mono ?_); rintro e w2 ⟨rfl, rfl⟩)
  go_ret2
  exact ⟨rfl, bw⟩
set_option maxHeartbeats 1000000 in
theorem write_0d (h l : Int) (d : ByteArray) (hd : ¬ d.data.toList = []) (hp : 0 ≤ h ∧ h ≤ 7) (lp : 0 ≤ l ∧ l ≤ 7) : Refuses 0 h l 0 d := by
  intro w
  have HI : Hid (∀ W, Calls Tryz.prog 116 #[.int .i64 h] W fun e w' => e = .returned (.bool true) ∧ w' = W) := fun W => by have := isPart_any h W; rwa [decide_eq_true hp] at this
  have LI : Hid (∀ W, Calls Tryz.prog 116 #[.int .i64 l] W fun e w' => e = .returned (.bool true) ∧ w' = W) := fun W => by have := isPart_any l W; rwa [decide_eq_true lp] at this
  have HK : Hid (∀ W, Calls Tryz.prog 53 #[.int .i64 0] W fun e w' => e = .returned (.int .i64 (Gf.code 0)) ∧ w' = W) := fun W => gcode_any 0 W
  have e1 : (d.toList == []) = false := by rw [tl_eq]; exact beq_eq_false_iff_ne.2 hd
  have hk : (Gf.code 0 : Int) = 0 := rfl
  rw [hk] at HK
  clear hk hd
  have bw := Gf.below1 w (.cells #[.int .i64 0, .int .i64 h, .int .i64 l, .int .i64 0, .string d] 80)
  clear hp lp
  go_enter Tryz.func96, Tryz.ntmps96
  go_wp2_with (first | (go_at_call 116; (first | with_reducible refine (HI.out _).mono ?_ | with_reducible refine (LI.out _).mono ?_); rintro e w2 ⟨rfl, rfl⟩) | (go_at_call 53; refine (HK.out _).mono ?_; rintro e w2 ⟨rfl, rfl⟩))
  all_goals
    go_ret2
    exact ⟨rfl, bw⟩
set_option maxHeartbeats 1000000 in
theorem write_0z (h l z : Int) (d : ByteArray) (hz : ¬ z = 0) (hc : Gf.code z = 0) (hp : 0 ≤ h ∧ h ≤ 7) (lp : 0 ≤ l ∧ l ≤ 7) : Refuses 0 h l z d := by
  intro w
  have HI : Hid (∀ W, Calls Tryz.prog 116 #[.int .i64 h] W fun e w' => e = .returned (.bool true) ∧ w' = W) := fun W => by have := isPart_any h W; rwa [decide_eq_true hp] at this
  have LI : Hid (∀ W, Calls Tryz.prog 116 #[.int .i64 l] W fun e w' => e = .returned (.bool true) ∧ w' = W) := fun W => by have := isPart_any l W; rwa [decide_eq_true lp] at this
  have HK : Hid (∀ W, Calls Tryz.prog 53 #[.int .i64 z] W fun e w' => e = .returned (.int .i64 (Gf.code z)) ∧ w' = W) := fun W => gcode_any z W
  have e1 := Gf.beq0 hz
  have hk : (Gf.code z : Int) = 0 := by omega
  rw [hk] at HK
  clear hk hc
  clear hz
  have bw := Gf.below1 w (.cells #[.int .i64 0, .int .i64 h, .int .i64 l, .int .i64 z, .string d] 80)
  clear hp lp
  go_enter Tryz.func96, Tryz.ntmps96
  go_wp2_with (first | (go_at_call 116; (first | with_reducible refine (HI.out _).mono ?_ | with_reducible refine (LI.out _).mono ?_); rintro e w2 ⟨rfl, rfl⟩) | (go_at_call 53; refine (HK.out _).mono ?_; rintro e w2 ⟨rfl, rfl⟩))
  all_goals
    go_ret2
    exact ⟨rfl, bw⟩
set_option maxHeartbeats 1000000 in
theorem write_0k (h l z : Int) (d : ByteArray) (hz : ¬ z = 0) (hc : ¬ Gf.code z = 0) (hp : 0 ≤ h ∧ h ≤ 7) (lp : 0 ≤ l ∧ l ≤ 7) : Refuses 0 h l z d := by
  intro w
  have HI : Hid (∀ W, Calls Tryz.prog 116 #[.int .i64 h] W fun e w' => e = .returned (.bool true) ∧ w' = W) := fun W => by have := isPart_any h W; rwa [decide_eq_true hp] at this
  have LI : Hid (∀ W, Calls Tryz.prog 116 #[.int .i64 l] W fun e w' => e = .returned (.bool true) ∧ w' = W) := fun W => by have := isPart_any l W; rwa [decide_eq_true lp] at this
  have HK : Hid (∀ W, Calls Tryz.prog 53 #[.int .i64 z] W fun e w' => e = .returned (.int .i64 (Gf.code z)) ∧ w' = W) := fun W => gcode_any z W
  have e1 := Gf.beq0 hz
  generalize Gf.code z = k at *
  have hk : ((k : Int) == 0) = false := Gf.beq0 (by omega)
  clear hc
  clear hz
  have bw := Gf.below1 w (.cells #[.int .i64 0, .int .i64 h, .int .i64 l, .int .i64 z, .string d] 80)
  clear hp lp
  go_enter Tryz.func96, Tryz.ntmps96
  go_wp2_with (first | (go_at_call 116; (first | with_reducible refine (HI.out _).mono ?_ | with_reducible refine (LI.out _).mono ?_); rintro e w2 ⟨rfl, rfl⟩) | (go_at_call 53; refine (HK.out _).mono ?_; rintro e w2 ⟨rfl, rfl⟩))
  all_goals
    go_ret2
    exact ⟨rfl, bw⟩
set_option maxHeartbeats 1000000 in
theorem write_tz (t h l z : Int) (d : ByteArray) (ht : ¬ t = 0) (hc : Gf.code z = 0) (hp : 0 ≤ h ∧ h ≤ 7) (lp : 0 ≤ l ∧ l ≤ 7) : Refuses t h l z d := by
  intro w
  have HI : Hid (∀ W, Calls Tryz.prog 116 #[.int .i64 h] W fun e w' => e = .returned (.bool true) ∧ w' = W) := fun W => by have := isPart_any h W; rwa [decide_eq_true hp] at this
  have LI : Hid (∀ W, Calls Tryz.prog 116 #[.int .i64 l] W fun e w' => e = .returned (.bool true) ∧ w' = W) := fun W => by have := isPart_any l W; rwa [decide_eq_true lp] at this
  have HK : Hid (∀ W, Calls Tryz.prog 53 #[.int .i64 z] W fun e w' => e = .returned (.int .i64 (Gf.code z)) ∧ w' = W) := fun W => gcode_any z W
  have e1 := Gf.beq0 ht
  have hk : (Gf.code z : Int) = 0 := by omega
  rw [hk] at HK
  clear hk hc
  clear ht
  have bw := Gf.below1 w (.cells #[.int .i64 t, .int .i64 h, .int .i64 l, .int .i64 z, .string d] 80)
  clear hp lp
  go_enter Tryz.func96, Tryz.ntmps96
  go_wp2_with (first | (go_at_call 116; (first | with_reducible refine (HI.out _).mono ?_ | with_reducible refine (LI.out _).mono ?_); rintro e w2 ⟨rfl, rfl⟩) | (go_at_call 53; refine (HK.out _).mono ?_; rintro e w2 ⟨rfl, rfl⟩))
  all_goals
    go_ret2
    exact ⟨rfl, bw⟩
set_option maxHeartbeats 1000000 in
theorem write_2k (h l z : Int) (d : ByteArray) (hs : ¬ (d.size : Int) = z) (hc : ¬ Gf.code z = 0) (hp : 0 ≤ h ∧ h ≤ 7) (lp : 0 ≤ l ∧ l ≤ 7) : Refuses 2 h l z d := by
  intro w
  have HI : Hid (∀ W, Calls Tryz.prog 116 #[.int .i64 h] W fun e w' => e = .returned (.bool true) ∧ w' = W) := fun W => by have := isPart_any h W; rwa [decide_eq_true hp] at this
  have LI : Hid (∀ W, Calls Tryz.prog 116 #[.int .i64 l] W fun e w' => e = .returned (.bool true) ∧ w' = W) := fun W => by have := isPart_any l W; rwa [decide_eq_true lp] at this
  have HK : Hid (∀ W, Calls Tryz.prog 53 #[.int .i64 z] W fun e w' => e = .returned (.int .i64 (Gf.code z)) ∧ w' = W) := fun W => gcode_any z W
  have e1 := Gf.beq0 hs
  generalize Gf.code z = k at *
  have hk : ((k : Int) == 0) = false := Gf.beq0 (by omega)
  clear hc
  clear hs
  have bw := Gf.below1 w (.cells #[.int .i64 2, .int .i64 h, .int .i64 l, .int .i64 z, .string d] 80)
  clear hp lp
  go_enter Tryz.func96, Tryz.ntmps96
  go_wp2_with (first | (go_at_call 116; (first | with_reducible refine (HI.out _).mono ?_ | with_reducible refine (LI.out _).mono ?_); rintro e w2 ⟨rfl, rfl⟩) | (go_at_call 53; refine (HK.out _).mono ?_; rintro e w2 ⟨rfl, rfl⟩))
  all_goals
    go_ret2
    exact ⟨rfl, bw⟩
set_option maxHeartbeats 1000000 in
theorem write_3k (h l z : Int) (d : ByteArray) (hs : ¬ (d.size : Int) < z) (hc : ¬ Gf.code z = 0) (hp : 0 ≤ h ∧ h ≤ 7) (lp : 0 ≤ l ∧ l ≤ 7) : Refuses 3 h l z d := by
  intro w
  have HI : Hid (∀ W, Calls Tryz.prog 116 #[.int .i64 h] W fun e w' => e = .returned (.bool true) ∧ w' = W) := fun W => by have := isPart_any h W; rwa [decide_eq_true hp] at this
  have LI : Hid (∀ W, Calls Tryz.prog 116 #[.int .i64 l] W fun e w' => e = .returned (.bool true) ∧ w' = W) := fun W => by have := isPart_any l W; rwa [decide_eq_true lp] at this
  have HK : Hid (∀ W, Calls Tryz.prog 53 #[.int .i64 z] W fun e w' => e = .returned (.int .i64 (Gf.code z)) ∧ w' = W) := fun W => gcode_any z W
  have e1 := decide_eq_false hs
  generalize Gf.code z = k at *
  have hk : ((k : Int) == 0) = false := Gf.beq0 (by omega)
  clear hc
  have bw := Gf.below1 w (.cells #[.int .i64 3, .int .i64 h, .int .i64 l, .int .i64 z, .string d] 80)
  clear hp lp
  go_enter Tryz.func96, Tryz.ntmps96
  go_wp2_with (first | (go_at_call 116; (first | with_reducible refine (HI.out _).mono ?_ | with_reducible refine (LI.out _).mono ?_); rintro e w2 ⟨rfl, rfl⟩) | (go_at_call 53; refine (HK.out _).mono ?_; rintro e w2 ⟨rfl, rfl⟩))
  all_goals
    go_ret2
    exact ⟨rfl, bw⟩
set_option maxHeartbeats 1000000 in
theorem write_tk (t h l z : Int) (d : ByteArray) (ht : ¬ t = 0) (ht2 : ¬ t = 2) (ht3 : ¬ t = 3) (hc : ¬ Gf.code z = 0) (hp : 0 ≤ h ∧ h ≤ 7) (lp : 0 ≤ l ∧ l ≤ 7) : Refuses t h l z d := by
  intro w
  have HI : Hid (∀ W, Calls Tryz.prog 116 #[.int .i64 h] W fun e w' => e = .returned (.bool true) ∧ w' = W) := fun W => by have := isPart_any h W; rwa [decide_eq_true hp] at this
  have LI : Hid (∀ W, Calls Tryz.prog 116 #[.int .i64 l] W fun e w' => e = .returned (.bool true) ∧ w' = W) := fun W => by have := isPart_any l W; rwa [decide_eq_true lp] at this
  have HK : Hid (∀ W, Calls Tryz.prog 53 #[.int .i64 z] W fun e w' => e = .returned (.int .i64 (Gf.code z)) ∧ w' = W) := fun W => gcode_any z W
  have e1 := Gf.beq0 ht
  have e2 := Gf.beq0 ht2
  have e3 := Gf.beq0 ht3
  generalize Gf.code z = k at *
  have hk : ((k : Int) == 0) = false := Gf.beq0 (by omega)
  clear hc
  clear ht ht2 ht3
  have bw := Gf.below1 w (.cells #[.int .i64 t, .int .i64 h, .int .i64 l, .int .i64 z, .string d] 80)
  clear hp lp
  go_enter Tryz.func96, Tryz.ntmps96
  go_wp2_with (first | (go_at_call 116; (first | with_reducible refine (HI.out _).mono ?_ | with_reducible refine (LI.out _).mono ?_); rintro e w2 ⟨rfl, rfl⟩) | (go_at_call 53; refine (HK.out _).mono ?_; rintro e w2 ⟨rfl, rfl⟩))
  all_goals
    go_ret2
    exact ⟨rfl, bw⟩

theorem write_no (t h l z : Int) (d : ByteArray) (hn : ¬ Gf.ok ⟨t, h, l, z, d.data.toList⟩) : Refuses t h l z d := by
  by_cases hp : 0 ≤ h ∧ h ≤ 7
  · by_cases lp : 0 ≤ l ∧ l ≤ 7
    · have hn2 : ¬ ((t = 0 ∧ z = 0 ∧ d.data.toList = []) ∨ (t = 2 ∧ Gf.code z ≠ 0 ∧ (d.size : Int) = z) ∨ (t = 3 ∧ Gf.code z ≠ 0 ∧ (d.size : Int) < z)) := fun h' => hn ⟨⟨hp.1, hp.2, lp.1, lp.2⟩, by rw [← Gf.len_eq] at h'; exact h'⟩
      by_cases t0 : t = 0
      · subst t0
        by_cases z0 : z = 0
        · subst z0
          exact write_0d h l d (fun e => hn2 (Or.inl ⟨rfl, rfl, e⟩)) hp lp
        · by_cases hc : Gf.code z = 0
          · exact write_0z h l z d z0 hc hp lp
          · exact write_0k h l z d z0 hc hp lp
      · by_cases hc : Gf.code z = 0
        · exact write_tz t h l z d t0 hc hp lp
        · by_cases t2 : t = 2
          · subst t2
            exact write_2k h l z d (fun e => hn2 (Or.inr (Or.inl ⟨rfl, hc, e⟩))) hc hp lp
          · by_cases t3 : t = 3
            · subst t3
              exact write_3k h l z d (fun e => hn2 (Or.inr (Or.inr ⟨rfl, hc, e⟩))) hc hp lp
            · exact write_tk t h l z d t0 t2 t3 hc hp lp
    · exact write_l t h l z d hp lp
  · exact write_h t h l z d hp
end Go.Proofs.YtfiffbohhhehkaaGreat
