/-
  Walks of layer 13's statements: ParcelJoins.
-/
import Derived.Test.YteiajngfeiemkaaDoorPaF
import Derived.Test.YteiajngfeiemkaaDoorPa9
namespace Go.Proofs.YteiajngfeiemkaaDoor
open Go.RowKit
/-- What big answers: if not, there are few and none is long. -/
def BigPost (w : World) (l : List Pa.Pc) (e : Ending) (w' : World) : Prop := ∃ b : Bool, e = .returned (.bool b) ∧ (b = false → l.length ≤ 10000 ∧ ∀ p ∈ l, p.data.length ≤ 9000) ∧ Below w.heap.size w w'
namespace Pa
theorem addUp {i t d : Nat} (hi : i ≤ 300) (ht : t ≤ i * 9000) (hd : d ≤ 9000) : ∃ t2 : Nat, t2 ≤ (i + 1) * 9000 ∧ wrap64 ((t : Int) + (d : Int)) = (t2 : Int) ∧ IntKind.i64.wrap ((t : Int) + (d : Int)) = (t2 : Int) := by
  refine ⟨t + d, by omega, ?_, ?_⟩
  · unfold wrap64; omega
  · rw [IntKind.wrap_i64]; omega
theorem few {l : List Pc} {i n : Nat} (hn : n = l.length) (hi : ¬ i < n) (h : ∀ p ∈ l.take i, p.data.length ≤ 9000) (h3 : n ≤ 300) : l.length ≤ 10000 ∧ ∀ p ∈ l, p.data.length ≤ 9000 := by
  rw [List.take_of_length_le (by omega)] at h
  exact ⟨by omega, h⟩
theorem take_ok {l : List Pc} {i : Nat} {x : Pc} (hi : i < l.length) (hx : l[i] = x) (h : ∀ p ∈ l.take i, p.data.length ≤ 9000) (hd : x.data.length ≤ 9000) : ∀ p ∈ l.take (i + 1), p.data.length ≤ 9000 := by
  rw [List.take_succ_eq_append_getElem hi, hx]
  intro p hp
  rw [List.mem_append, List.mem_singleton] at hp
  rcases hp with hp | rfl
  · exact h p hp
  · exact hd
theorem dec9 {S : Nat} : (9000 < S → decide ((9000 : Int) < (S : Int)) = true) ∧ (¬ 9000 < S → decide ((9000 : Int) < (S : Int)) = false) := ⟨fun h => by simp; omega, fun h => by simp; omega⟩
theorem le9 {S k : Nat} (h : ¬ 9000 < S) (e : S = k) : k ≤ 9000 := by omega
end Pa
set_option maxHeartbeats 4000000 in
set_option maxRecDepth 100000 in
theorem pbig_any (l : List Pa.Pc) (a : Option Addr) (ca : Nat) (w : World) (hrow : Hid (PRow w a l)) :
    Calls Tryd.prog 17 #[.slice a l.length ca] w fun e w' => BigPost w l e w' := by
  obtain ⟨n, hnl⟩ : ∃ n, n = l.length := ⟨_, rfl⟩
  rw [← hnl]
  replace hnl := Rg.hid hnl
  by_cases h300 : 300 < n
  · have q0 : decide ((300 : Int) < (n : Int)) = true := by simp; omega
    have q1 : decide (300 < n) = true := by simp; omega
    clear hrow hnl
    go_enter Tryd.func17, Tryd.ntmps17
    go_wp2
    go_ret
    exact ⟨true, rfl, (fun h => by cases h), Below.refl _ _⟩
  · have h3 : n ≤ 300 := by omega
    have q0 : decide ((300 : Int) < (n : Int)) = false := by simp; omega
    have q1 : decide (300 < n) = false := by simp; omega
    go_enter Tryd.func17, Tryd.ntmps17
    go_wp2
    go_loopw [3, 11] (fun vt vi wr => ∃ i t : Nat, i ≤ n ∧ vi = .int .i64 i ∧ vt = .int .i64 t ∧ Hid (t ≤ i * 9000) ∧ Hid (∀ p ∈ l.take i, p.data.length ≤ 9000) ∧ Below w.heap.size w wr) (fun _ vi _ => n - (intOf vi).toNat)
    case atStart => exact ⟨0, 0, Nat.zero_le _, rfl, rfl, Nat.zero_le _, (fun p hp => by simp at hp), Below.refl _ w⟩
    case round =>
      obtain ⟨i, t, hin, rfl, rfl, ht, hall, hbw⟩ := hrel
      by_cases hlt : i < n
      · have hil : i < l.length := by rw [← hnl.out]; exact hlt
        obtain ⟨x, hx⟩ : ∃ x, l[i] = x := ⟨_, rfl⟩
        obtain ⟨b1, o1, rfl, hb1, ha1⟩ : ∃ b o, a = some ⟨b, o, none⟩ ∧ b < w.heap.size ∧ Rg.At w b o (parE.flat l) := by
          rcases hrow.out with h | h
          · rw [h] at hil; simp at hil
          · exact h
        have y1 := par_at ((ha1.elem hil).below hbw hb1)
        rw [hx, show parE.m = 2 from rfl] at y1
        have htk := fun hd => Pa.take_ok hil hx hall.out hd
        obtain ⟨xt, xd⟩ := x
        obtain ⟨c0, c1⟩ := y1
        dsimp only at c0 c1 htk
        obtain ⟨D, hD⟩ : ∃ D : ByteArray, D = ⟨xd.toArray⟩ := ⟨_, rfl⟩
        have hDs : D.size = xd.length := by rw [hD]; exact If.size_of xd
        rw [← hD] at c1
        replace hD := Rg.hid hD
        replace hDs := Rg.hid hDs
        replace htk := Rg.hid htk
        have iz0 : (0 : Int) ≤ (i : Int) := by omega
        have iz1 : (i : Int) < (n : Int) := by omega
        have bA := If.more hbw (.cells #[.int .i64 xt, .string D] 23)
        have i3 : i ≤ 300 := by omega
        clear hx ha1 hrow hil hall
        by_cases h9 : 9000 < D.size
        · have q2 := Pa.dec9.1 h9
          clear htk ht
          go_wp2
          go_ret
          exact ⟨true, rfl, (fun h => by cases h), bA⟩
        · have q2 := Pa.dec9.2 h9
          have hx9 := Pa.le9 h9 hDs.out
          obtain ⟨t2, ht2, v1, v2⟩ := Pa.addUp i3 ht.out (Pa.le9 h9 rfl)
          have hall2 := Rg.hid (htk.out hx9)
          replace ht2 := Rg.hid ht2
          clear htk ht hx9
          go_wp2
          go_roundw
          case rel => exact ⟨i + 1, t2, by omega, by go_num, rfl, ht2, hall2, bA⟩
          case measure => simp [intOf]; omega
      · have hfew := Rg.hid (Pa.few hnl.out hlt hall.out h3)
        clear hrow hall ht
        go_wp2
        go_ret
        exact ⟨_, rfl, (fun _ => hfew.out), hbw⟩
set_option maxHeartbeats 4000000 in
set_option maxRecDepth 100000 in
theorem pjoins_core (l : List Pa.Pc) (n : Nat) (a : Option Addr) (ca : Nat) (w : World) (Z : ByteArray) (ez : Int)
    (HB : Hid (Calls Tryd.prog 17 #[.slice a n ca] w fun e w' => BigPost w l e w'))
    (HJ : Hid (l.length ≤ 10000 ∧ (∀ p ∈ l, p.data.length ≤ 9000) → ∀ W, Below w.heap.size w W → Calls Tryd.prog 18 #[.slice a n ca] W fun e w' => e = .returned (.tuple #[.string Z, .int .i64 ez]) ∧ Below w.heap.size w w'))
    (HR : Hid (l.length ≤ 10000 ∧ (∀ p ∈ l, p.data.length ≤ 9000) → ∀ W, Below w.heap.size w W → Calls Tryd.prog 19 #[.slice a n ca] W fun e w' => e = .returned (.tuple #[.string Z, .int .i64 ez]) ∧ Below w.heap.size w w'))
    (HA : Hid (∀ W, Below w.heap.size w W → Calls Tryd.prog 9 #[] W fun e w' => e = .returned (.bool true) ∧ Below w.heap.size w w')) :
    Calls Tryd.prog 6 #[.slice a n ca] w fun e w' => e = .returned (.bool true) ∧ Below w.heap.size w w' := by
  go_enter Tryd.func6, Tryd.ntmps6
  go_wp2_with (go_at_call 17; refine HB.out.mono ?_)
  rintro e w1 ⟨b, rfl, hb, b1⟩
  cases b with
  | true =>
    clear hb
    go_wp2_with (go_at_call 9; refine (HA.out _ b1).mono ?_; rintro e w2 ⟨rfl, b2⟩)
    go_ret
    exact ⟨rfl, b2⟩
  | false =>
    have h1 := Rg.hid (HJ.out (hb rfl))
    have h2 := Rg.hid (HR.out (hb rfl))
    clear hb HJ HR
    go_wp2_with (first
      | (go_at_call 18; refine (h1.out _ b1).mono ?_; rintro e w2 ⟨rfl, b2⟩)
      | (go_at_call 19; refine (h2.out _ b2).mono ?_; rintro e w3 ⟨rfl, b3⟩)
      | (go_at_call 9; refine (HA.out _ b3).mono ?_; rintro e w4 ⟨rfl, b4⟩))
    go_ret
    exact ⟨rfl, b4⟩
theorem pjoins_walk (a : Option Addr) (ca : Nat) (l : List Pa.Pc) (_sz : ∀ p ∈ l, p.data.length ≤ maxLen) (_n : l.length ≤ maxLen) (w : World) (hrow : PRow w a l) (htab : Lib.TabIs Tryd.prog w "internal/strconv.uint64pow10" .u64 Lib.pow10Tab) :
    Calls Tryd.prog 6 #[.slice a l.length ca] w fun e w' => e = .returned (.bool true) ∧ Below w.heap.size w w' := by
  obtain ⟨Z, ez, hZ⟩ : ∃ Z ez, Pa.joinV (Pa.join [] l) = .tuple #[.string Z, .int .i64 ez] := by
    cases Pa.join [] l with
    | ok t => exact ⟨_, _, rfl⟩
    | error e => exact ⟨_, _, rfl⟩
  refine pjoins_core l l.length a ca w Z ez (pbig_any l a ca w hrow) (fun hb W hW => ?_) (fun hb W hW => ?_) (fun W hW => (pawake_any W (tab_below htab hW)).mono fun _ _ ⟨x, y⟩ => ⟨x, Rg.chain hW y⟩)
  · rw [← hZ]
    exact (pjoin_any l hb.1 hb.2 a ca W (hrow.below hW) (tab_below htab hW)).mono fun _ _ ⟨x, y⟩ => ⟨x, Rg.chain hW y⟩
  · rw [← hZ]
    exact (rjoin_any l hb.1 hb.2 a ca W (hrow.below hW)).mono fun _ _ ⟨x, y⟩ => ⟨x, Rg.chain hW y⟩
end Go.Proofs.YteiajngfeiemkaaDoor
