/-
  Layer 8: readSign.
-/
import Derived.Test.YtpggnhnpphbaeaaDoorMathH
import Derived.Test.YtpggnhnpphbaeaaDoorRowK
import Derived.Test.YtpggnhnpphbaeaaDoorRet
import Derived.Test.YtpggnhnpphbaeaaDoorShelf
import Derived.WalkMore
import Derived.WalkSmall
import Derived.Deep.RegionHeld3
import Derived.Deep.RegionWith
import Derived.Deep.RegionLaw
import Derived.Deep.DeepCutAuto
namespace Go.Proofs.YtpggnhnpphbaeaaDoor
open Go.RowKit


set_option maxHeartbeats 1000000 in
set_option maxRecDepth 100000 in
theorem rsign_plain (s : ByteArray) (c : UInt8) (w : World) (h0 : 0 < s.size) (hc : s[0] = c) (hp : Lib.indexByte Ch.hid c < 0) :
    Calls Tryd.prog 34 #[.string s] w fun e w' => e = .returned (.tuple #[.int .u8 (c.toNat : Int), .int .i64 1]) ∧ w' = w := by
  have HI : Hid (∀ W, Calls Tryd.prog 39 #[.string ⟨#[13, 10, 32, 45, 34, 92]⟩, .int .u8 (c.toNat : Int)] W fun e w' => e = .returned (.int .i64 (Lib.indexByte Ch.hid c)) ∧ W = w') := fun W => by
    have := Tryd.strings_IndexByte ⟨#[13, 10, 32, 45, 34, 92]⟩ (c.toNat : Int) W
    rw [show (c.toNat : Int).toNat.toUInt8 = c by simp] at this
    exact this.mono fun e w' h => ⟨h.1, h.2.symm⟩
  have d0 : decide (Lib.indexByte Ch.hid c < 0) = true := by simp only [decide_eq_true_eq]; exact hp
  generalize Lib.indexByte Ch.hid c = I at *
  have hz : (0 : Int) < (s.size : Int) := by omega
  go_enter Tryd.func34, Tryd.ntmps34
  go_wp2_with (go_at_call 39; refine (HI.out _).mono ?_; rintro e w' ⟨rfl, rfl⟩)
  exact bodyPost_ret (v := .tuple #[.int .u8 (c.toNat : Int), .int .i64 1]) (by simp [results, Tryd.results34, go_sem]) rfl ⟨rfl, rfl⟩
theorem hu2 (k : Nat) (hk : k < 6) (u : UInt8) (hu : Ch.hid.getD k 0 = u) : (⟨#[13, 10, 32, 45, 34, 92]⟩ : ByteArray)[k]'hk = u := by
  subst hu
  have : k = 0 ∨ k = 1 ∨ k = 2 ∨ k = 3 ∨ k = 4 ∨ k = 5 := by omega
  rcases this with rfl | rfl | rfl | rfl | rfl | rfl <;> rfl
theorem ba_at {s : ByteArray} {i : Nat} {x : UInt8} (hi : i < s.size) (h : s.data.toList[i]? = some x) : s[i] = x := by
  have h2 : s.data.toList[i]? = some s[i] := by
    rw [List.getElem?_eq_getElem (by simpa using hi)]
    congr 1
  rw [h2] at h
  exact Option.some.inj h
theorem idx_range : ∀ (l : List UInt8) (d : UInt8), Lib.indexByte l d = -1 ∨ ∃ k : Nat, k < l.length ∧ Lib.indexByte l d = (k : Int)
  | [], _ => .inl rfl
  | b :: l, d => by
    unfold Lib.indexByte
    split
    · exact .inr ⟨0, by simp, rfl⟩
    · split
      · exact .inl rfl
      · rename_i h
        rcases idx_range l d with e | ⟨k, hk, e⟩
        · rw [e] at h; simp at h
        · exact .inr ⟨k + 1, by simp; omega, by rw [e]; simp⟩
/-- what a reader of a word panics with -/
def giveUp : PanicEntry := { v := .iface 49 (.agg #[.int .i64 3]), recovered := false }

set_option maxHeartbeats 1000000 in
set_option maxRecDepth 100000 in
theorem rsign_strange (s : ByteArray) (c : UInt8) (w : World) (h0 : 0 < s.size) (hc : s[0] = c) (hp : ¬ Lib.indexByte Ch.hid c < 0) (h9 : c ≠ 92) :
    Calls Tryd.prog 34 #[.string s] w fun e w' => e = .panicked [giveUp] ∧ w' = w := by
  have HI : Hid (∀ W, Calls Tryd.prog 39 #[.string ⟨#[13, 10, 32, 45, 34, 92]⟩, .int .u8 (c.toNat : Int)] W fun e w' => e = .returned (.int .i64 (Lib.indexByte Ch.hid c)) ∧ W = w') := fun W => by
    have := Tryd.strings_IndexByte ⟨#[13, 10, 32, 45, 34, 92]⟩ (c.toNat : Int) W
    rw [show (c.toNat : Int).toNat.toUInt8 = c by simp] at this
    exact this.mono fun e w' h => ⟨h.1, h.2.symm⟩
  have d0 : decide (Lib.indexByte Ch.hid c < 0) = false := by simp only [decide_eq_false_iff_not]; exact hp
  generalize Lib.indexByte Ch.hid c = I at *
  have d1 : ((c.toNat : Int) != 92) = true := by rw [bne_iff_ne]; intro h; apply h9; apply UInt8.toNat_inj.1; show c.toNat = 92; omega
  have hz : (0 : Int) < (s.size : Int) := by omega
  go_enter Tryd.func34, Tryd.ntmps34
  go_wp2_with (go_at_call 39; refine (HI.out _).mono ?_; rintro e w' ⟨rfl, rfl⟩)
  exact ⟨rfl, rfl, rfl⟩

set_option maxHeartbeats 1000000 in
set_option maxRecDepth 100000 in
theorem rsign_short (s : ByteArray) (c : UInt8) (w : World) (h0 : 0 < s.size) (hc : s[0] = c) (hp : ¬ Lib.indexByte Ch.hid c < 0) (h9 : c = 92) (h2 : s.size < 2) :
    Calls Tryd.prog 34 #[.string s] w fun e w' => e = .panicked [giveUp] ∧ w' = w := by
  have d1 : ((c.toNat : Int) != 92) = false := by rw [h9]; rfl
  replace h9 := Rg.hid h9
  have HI : Hid (∀ W, Calls Tryd.prog 39 #[.string ⟨#[13, 10, 32, 45, 34, 92]⟩, .int .u8 (c.toNat : Int)] W fun e w' => e = .returned (.int .i64 (Lib.indexByte Ch.hid c)) ∧ W = w') := fun W => by
    have := Tryd.strings_IndexByte ⟨#[13, 10, 32, 45, 34, 92]⟩ (c.toNat : Int) W
    rw [show (c.toNat : Int).toNat.toUInt8 = c by simp] at this
    exact this.mono fun e w' h => ⟨h.1, h.2.symm⟩
  have d0 : decide (Lib.indexByte Ch.hid c < 0) = false := by simp only [decide_eq_false_iff_not]; exact hp
  generalize Lib.indexByte Ch.hid c = I at *
  have d2 : decide ((s.size : Int) < 2) = true := by simp only [decide_eq_true_eq]; omega
  have hz : (0 : Int) < (s.size : Int) := by omega
  go_enter Tryd.func34, Tryd.ntmps34
  go_wp2_with (go_at_call 39; refine (HI.out _).mono ?_; rintro e w' ⟨rfl, rfl⟩)
  exact ⟨rfl, rfl, rfl⟩

set_option maxHeartbeats 1000000 in
set_option maxRecDepth 100000 in
theorem rsign_letter (s : ByteArray) (c : UInt8) (d : UInt8) (w : World) (h0 : 0 < s.size) (hc : s[0] = c) (hp : ¬ Lib.indexByte Ch.hid c < 0) (h9 : c = 92) (h2 : 2 ≤ s.size) (hd : s[1] = d) (hl : Lib.indexByte Ch.lets d < 0) :
    Calls Tryd.prog 34 #[.string s] w fun e w' => e = .panicked [giveUp] ∧ w' = w := by
  have d1 : ((c.toNat : Int) != 92) = false := by rw [h9]; rfl
  replace h9 := Rg.hid h9
  have HI : Hid (∀ W, Calls Tryd.prog 39 #[.string ⟨#[13, 10, 32, 45, 34, 92]⟩, .int .u8 (c.toNat : Int)] W fun e w' => e = .returned (.int .i64 (Lib.indexByte Ch.hid c)) ∧ W = w') := fun W => by
    have := Tryd.strings_IndexByte ⟨#[13, 10, 32, 45, 34, 92]⟩ (c.toNat : Int) W
    rw [show (c.toNat : Int).toNat.toUInt8 = c by simp] at this
    exact this.mono fun e w' h => ⟨h.1, h.2.symm⟩
  have d0 : decide (Lib.indexByte Ch.hid c < 0) = false := by simp only [decide_eq_false_iff_not]; exact hp
  generalize Lib.indexByte Ch.hid c = I at *
  have d2 : decide ((s.size : Int) < 2) = false := by simp only [decide_eq_false_iff_not]; omega
  have hz1 : (1 : Int) < (s.size : Int) := by omega
  have HJ : Hid (∀ W, Calls Tryd.prog 39 #[.string ⟨#[114, 110, 115, 109, 113, 92]⟩, .int .u8 (d.toNat : Int)] W fun e w' => e = .returned (.int .i64 (Lib.indexByte Ch.lets d)) ∧ W = w') := fun W => by
    have := Tryd.strings_IndexByte ⟨#[114, 110, 115, 109, 113, 92]⟩ (d.toNat : Int) W
    rw [show (d.toNat : Int).toNat.toUInt8 = d by simp] at this
    exact this.mono fun e w' h => ⟨h.1, h.2.symm⟩
  have d3 : decide (Lib.indexByte Ch.lets d < 0) = true := by simp only [decide_eq_true_eq]; exact hl
  generalize Lib.indexByte Ch.lets d = I2 at *
  have hz : (0 : Int) < (s.size : Int) := by omega
  go_enter Tryd.func34, Tryd.ntmps34
  go_wp2_with (first | (go_at_call 39; with_reducible refine (HI.out _).mono ?_; rintro e w' ⟨rfl, rfl⟩) | (go_at_call 39; with_reducible refine (HJ.out _).mono ?_; rintro e w' ⟨rfl, rfl⟩))
  exact ⟨rfl, rfl, rfl⟩

set_option maxHeartbeats 1000000 in
set_option maxRecDepth 100000 in
theorem rsign_two (s : ByteArray) (c : UInt8) (d : UInt8) (w : World) (h0 : 0 < s.size) (hc : s[0] = c) (u : UInt8) (k : Nat) (hp : ¬ Lib.indexByte Ch.hid c < 0) (h9 : c = 92) (h2 : 2 ≤ s.size) (hd : s[1] = d) (hl : Lib.indexByte Ch.lets d = (k : Int)) (hk : k < 6) (hu : Ch.hid.getD k 0 = u) :
    Calls Tryd.prog 34 #[.string s] w fun e w' => e = .returned (.tuple #[.int .u8 (u.toNat : Int), .int .i64 2]) ∧ w' = w := by
  have d1 : ((c.toNat : Int) != 92) = false := by rw [h9]; rfl
  replace h9 := Rg.hid h9
  have HI : Hid (∀ W, Calls Tryd.prog 39 #[.string ⟨#[13, 10, 32, 45, 34, 92]⟩, .int .u8 (c.toNat : Int)] W fun e w' => e = .returned (.int .i64 (Lib.indexByte Ch.hid c)) ∧ W = w') := fun W => by
    have := Tryd.strings_IndexByte ⟨#[13, 10, 32, 45, 34, 92]⟩ (c.toNat : Int) W
    rw [show (c.toNat : Int).toNat.toUInt8 = c by simp] at this
    exact this.mono fun e w' h => ⟨h.1, h.2.symm⟩
  have d0 : decide (Lib.indexByte Ch.hid c < 0) = false := by simp only [decide_eq_false_iff_not]; exact hp
  generalize Lib.indexByte Ch.hid c = I at *
  have d2 : decide ((s.size : Int) < 2) = false := by simp only [decide_eq_false_iff_not]; omega
  have hz1 : (1 : Int) < (s.size : Int) := by omega
  have HJ : Hid (∀ W, Calls Tryd.prog 39 #[.string ⟨#[114, 110, 115, 109, 113, 92]⟩, .int .u8 (d.toNat : Int)] W fun e w' => e = .returned (.int .i64 (Lib.indexByte Ch.lets d)) ∧ W = w') := fun W => by
    have := Tryd.strings_IndexByte ⟨#[114, 110, 115, 109, 113, 92]⟩ (d.toNat : Int) W
    rw [show (d.toNat : Int).toNat.toUInt8 = d by simp] at this
    exact this.mono fun e w' h => ⟨h.1, h.2.symm⟩
  rw [hl] at HJ
  have d3 : decide ((k : Int) < 0) = false := by simp only [decide_eq_false_iff_not]; omega
  have hk0 : (0 : Int) ≤ (k : Int) := by omega
  have hk1 : (k : Int) < 6 := by omega
  have hz : (0 : Int) < (s.size : Int) := by omega
  go_enter Tryd.func34, Tryd.ntmps34
  go_wp2_with (first | (go_at_call 39; with_reducible refine (HI.out _).mono ?_; rintro e w' ⟨rfl, rfl⟩) | (go_at_call 39; with_reducible refine (HJ.out _).mono ?_; rintro e w' ⟨rfl, rfl⟩))
  exact bodyPost_ret (v := .tuple #[.int .u8 (u.toNat : Int), .int .i64 2]) (by simp [results, Tryd.results34, go_sem, hu2 k hk u hu]) rfl ⟨rfl, rfl⟩

theorem rsign_some (s : ByteArray) (c : UInt8) (k : Nat) (w : World) (h : Ch.sign s.data.toList = some (c, k)) : Calls Tryd.prog 34 #[.string s] w fun e w' => e = .returned (.tuple #[.int .u8 (c.toNat : Int), .int .i64 k]) ∧ w' = w := by
  have hp := Ch.sign_pos h
  have hsz : s.data.toList.length = s.size := rfl
  have h0 : 0 < s.size := by omega
  cases hl : s.data.toList with
  | nil => rw [hl] at h; cases h
  | cons x r =>
    rw [hl] at h
    have hx : s[0] = x := ba_at h0 (by rw [hl]; rfl)
    cases r with
    | nil =>
      simp only [Ch.sign] at h
      split at h
      · rename_i hi
        cases h
        exact rsign_plain s _ w h0 hx hi
      · cases h
    | cons d r =>
      have h2 : 2 ≤ s.size := by rw [← hsz, hl]; simp
      have hd : s[1] = d := ba_at (by omega) (by rw [hl]; rfl)
      simp only [Ch.sign] at h
      split at h
      · rename_i hi
        cases h
        exact rsign_plain s _ w h0 hx hi
      · rename_i hi
        split at h
        · cases h
        · rename_i h9
          split at h
          · cases h
          · rename_i hj
            obtain ⟨q, hq, e⟩ := (idx_range Ch.lets d).resolve_left (by intro e; rw [e] at hj; exact hj (by decide))
            cases h
            exact rsign_two s x d w h0 hx _ q hi (by simpa using h9) h2 hd e hq (by rw [e]; rfl)
theorem rsign_none (s : ByteArray) (w : World) (h0 : 0 < s.size) (h : Ch.sign s.data.toList = none) : Calls Tryd.prog 34 #[.string s] w fun e w' => e = .panicked [giveUp] ∧ w' = w := by
  have hsz : s.data.toList.length = s.size := rfl
  cases hl : s.data.toList with
  | nil => rw [hl] at hsz; simp at hsz; omega
  | cons x r =>
    rw [hl] at h
    have hx : s[0] = x := ba_at h0 (by rw [hl]; rfl)
    cases r with
    | nil =>
      have h1 : s.size < 2 := by rw [← hsz, hl]; simp
      simp only [Ch.sign] at h
      split at h
      · cases h
      · rename_i hi
        by_cases h9 : x = 92
        · exact rsign_short s x w h0 hx hi h9 h1
        · exact rsign_strange s x w h0 hx hi h9
    | cons d r =>
      have h2 : 2 ≤ s.size := by rw [← hsz, hl]; simp
      have hd : s[1] = d := ba_at (by omega) (by rw [hl]; rfl)
      simp only [Ch.sign] at h
      split at h
      · cases h
      · rename_i hi
        by_cases h9 : x = 92
        · rw [if_neg (by simp [h9])] at h
          split at h
          · rename_i hj
            exact rsign_letter s x d w h0 hx hi h9 h2 hd hj
          · cases h
        · exact rsign_strange s x w h0 hx hi h9
end Go.Proofs.YtpggnhnpphbaeaaDoor
