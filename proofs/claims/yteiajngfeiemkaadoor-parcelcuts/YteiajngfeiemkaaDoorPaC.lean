/-
  Walks of layer 13's statements: ParcelCuts.
-/
import Derived.Test.YteiajngfeiemkaaDoorPaA
import Derived.Test.YteiajngfeiemkaaDoorPa8
import Derived.BigQuiet
namespace Go.Proofs.YteiajngfeiemkaaDoor
open Go.RowKit
set_option maxHeartbeats 2000000 in
set_option maxRecDepth 100000 in
theorem psame_any (l : List Pa.Pc) (hn : l.length ≤ 10000) (a b : Option Addr) (ca cb : Nat) (w : World) (h1 : Hid (parE.Row w a l)) (h2 : Hid (parE.Row w b l)) :
    Calls Tryd.prog 16 #[.slice a l.length ca, .slice b l.length cb] w fun e w' => e = .returned (.bool true) ∧ Below w.heap.size w w' := by
  obtain ⟨n, hnl⟩ : ∃ n, n = l.length := ⟨_, rfl⟩
  rw [← hnl]
  have hn1 : n ≤ 10000 := by omega
  replace hnl := Rg.hid hnl
  clear hn
  go_enter Tryd.func16, Tryd.ntmps16
  go_wp2
  go_loopw [13] (fun vi wr => ∃ i : Nat, i ≤ n ∧ vi = .int .i64 i ∧ Below w.heap.size w wr) (fun vi _ => n - (intOf vi).toNat)
  case atStart => exact ⟨0, Nat.zero_le _, rfl, Below.refl _ _⟩
  case round =>
    obtain ⟨i, hin, rfl, hbw⟩ := hrel
    by_cases hlt : i < n
    · have hil : i < l.length := by rw [← hnl.out]; exact hlt
      obtain ⟨x, hx⟩ : ∃ x, l[i] = x := ⟨_, rfl⟩
      obtain ⟨b1, o1, rfl, hb1, ha1⟩ : ∃ b o, a = some ⟨b, o, none⟩ ∧ b < w.heap.size ∧ Rg.At w b o (parE.flat l) := by
        rcases h1.out with ⟨_, h⟩ | h
        · rw [h] at hil; simp at hil
        · exact h
      obtain ⟨b2, o2, rfl, hb2, ha2⟩ : ∃ c o, b = some ⟨c, o, none⟩ ∧ c < w.heap.size ∧ Rg.At w c o (parE.flat l) := by
        rcases h2.out with ⟨_, h⟩ | h
        · rw [h] at hil; simp at hil
        · exact h
      have y1 := par_at ((ha1.elem hil).below hbw hb1)
      have y2 := par_at ((ha2.elem hil).below hbw hb2)
      rw [hx] at y1 y2
      obtain ⟨xt, xd⟩ := x
      obtain ⟨c0, c1⟩ := y1
      obtain ⟨c2, c3⟩ := y2
      have em : parE.m = 2 := rfl
      rw [em] at c0 c1 c2 c3
      dsimp only at c0 c1 c2 c3
      generalize (⟨xd.toArray⟩ : ByteArray) = D at *
      have iz0 : (0 : Int) ≤ (i : Int) := by omega
      have iz1 : (i : Int) < (n : Int) := by omega
      clear hx ha1 ha2 h1 h2 hil em
      go_upto_region 6 with fail
      go_quiet (fail)
      go_wp2
      go_roundw
      case rel => exact ⟨i + 1, by omega, by go_num, Rg.drewN hbw _⟩
      case measure => simp [intOf]; omega
    · have hie : i = n := by omega
      subst hie
      go_wp2
      go_ret
      exact ⟨rfl, hbw⟩
set_option maxHeartbeats 2000000 in
set_option maxRecDepth 100000 in
theorem pcuts_core (s : ByteArray) (z : Int) (w : World) (r : List Pa.Pc) (hn : r.length ≤ 10000) (er : Nat) (big : Bool) (hd : decide ((9000 : Int) < (s.size : Int)) = big)
    (HC : Hid (∀ W, Below w.heap.size w W → Calls Tryd.prog 14 #[.string s, .int .i64 z] W fun e w' => CutPost W r er e w'))
    (HR : Hid (∀ W, Calls Tryd.prog 15 #[.string s, .int .i64 z] W fun e w' => CutPost W r er e w'))
    (HA : Hid (∀ W, Below w.heap.size w W → Calls Tryd.prog 9 #[] W fun e w' => e = .returned (.bool true) ∧ Below w.heap.size w w')) :
    Calls Tryd.prog 5 #[.string s, .int .i64 z] w fun e w' => e = .returned (.bool true) ∧ Below w.heap.size w w' := by
  have HS : Hid (∀ a b ca cb W, Hid (parE.Row W a r) → Hid (parE.Row W b r) → Calls Tryd.prog 16 #[.slice a r.length ca, .slice b r.length cb] W fun e w' => e = .returned (.bool true) ∧ Below W.heap.size W w') := fun a b ca cb W h1 h2 => psame_any r hn a b ca cb W h1 h2
  clear hn
  cases big with
  | true =>
    go_enter Tryd.func5, Tryd.ntmps5
    go_wp2_with (go_at_call 9; refine (HA.out _ (Below.refl _ _)).mono ?_; rintro e w2 ⟨rfl, b2⟩)
    go_ret
    exact ⟨rfl, b2⟩
  | false =>
    go_enter Tryd.func5, Tryd.ntmps5
    go_upto_region 4 with (go_at_call 14; refine (HC.out _ (Below.refl _ _)).mono ?_; rintro e w1 ⟨A, ca, rfl, _, r1, b1⟩)
    go_upto_region 5 with (go_at_call 15; refine (HR.out _).mono ?_; rintro e w2 ⟨B, cb, rfl, _, r2, b2⟩)
    have r1' := Rg.hid (r1.out.below b2)
    have b2' := Rg.chain b1 b2
    go_wp2_with (first
      | (go_at_call 16; refine (HS.out _ _ _ _ _ r1' r2).mono ?_; rintro e w3 ⟨rfl, b3⟩; have b3' := Rg.chain b2' b3)
      | (go_at_call 9; refine (HA.out _ b3').mono ?_; rintro e w4 ⟨rfl, b4⟩))
    go_ret
    exact ⟨rfl, b4⟩
theorem Pa.cutR_len (l : List UInt8) (z : Int) : (Pa.cutR l z).1.length ≤ 10000 := by
  unfold Pa.cutR
  split
  · simp
  · rename_i h
    split
    · simp
    · rename_i h2
      rw [Pa.file_len]
      have h3 := (Pa.cnt_le (z := z.toNat) (n := l.length) (by omega)).2
      have := Pa.lim (k := Pa.cnt z.toNat l.length) (z := z.toNat) (n := l.length) (by omega) (by omega) h3
      omega
theorem pcuts_walk (s : ByteArray) (hs : s.size ≤ maxLen) (z : Int) (_h0 : -9223372036854775808 ≤ z) (_h1 : z ≤ 9223372036854775807) (w : World) (htab : Lib.TabIs Tryd.prog w "internal/strconv.uint64pow10" .u64 Lib.pow10Tab) :
    Calls Tryd.prog 5 #[.string s, .int .i64 z] w fun e w' => e = .returned (.bool true) ∧ Below w.heap.size w w' :=
  pcuts_core s z w _ (Pa.cutR_len _ _) _ _ rfl (fun W hW => pcut_any s hs z W (tab_below htab hW)) (fun W => rcut_any s hs z W) (awakeF w htab)
end Go.Proofs.YteiajngfeiemkaaDoor
