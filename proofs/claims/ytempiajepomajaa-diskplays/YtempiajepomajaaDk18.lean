/-
  Layer 6: the statements' heavy and awake.
-/
import Derived.Test.YtempiajepomajaaDk17
namespace Go.Proofs.Ytempiajepomajaa
open Go.RowKit

/-- no calls, or a row of them -/
def CRow0 (W : World) (a : Option Addr) (l : List Dsk.Cl) : Prop := l = [] ∨ ∃ b o, a = some ⟨b, o, none⟩ ∧ b < W.heap.size ∧ Rg.At W b o (callE.flat l)
theorem CRow0.below {W W' : World} {a : Option Addr} {l : List Dsk.Cl} (h : CRow0 W a l) (hb : Below W.heap.size W W') : CRow0 W' a l := by
  rcases h with h | ⟨b, o, h1, h2, h3⟩
  · exact .inl h
  · exact .inr ⟨b, o, h1, Nat.lt_of_lt_of_le h2 hb.size, h3.below hb h2⟩
/-- what is not heavy -/
structure Light (l : List Dsk.Cl) : Prop where
  len : l.length ≤ 150
  data : ∀ c ∈ l, c.x.size ≤ 70000
/-- what 'heavy' says: some answer; where it is 'no' the calls are light -/
def HeavyPost (l : List Dsk.Cl) (w : World) (e : Ending) (w' : World) : Prop := ∃ B : Bool, e = .returned (.bool B) ∧ (B = false → Light l) ∧ Below w.heap.size w w'
theorem data_step {l : List Dsk.Cl} {i : Nat} (hi : i < l.length) (h : ∀ c ∈ l.take i, c.x.size ≤ 70000) (hx : l[i].x.size ≤ 70000) : ∀ c ∈ l.take (i + 1), c.x.size ≤ 70000 := by
  rw [List.take_succ_eq_append_getElem hi]
  intro c hc
  rcases List.mem_append.1 hc with h' | h'
  · exact h c h'
  · rw [List.mem_singleton.1 h']; exact hx

set_option maxHeartbeats 2000000 in
set_option maxRecDepth 100000 in
theorem heavy_any (a : Option Addr) (ca : Nat) (l : List Dsk.Cl) (w : World) (hn : l.length ≤ 1000000000000000) (hrow : CRow0 w a l) :
    Calls Try.prog 4 #[.slice a l.length ca] w fun e w' => HeavyPost l w e w' := by
  obtain ⟨N, hN⟩ : ∃ N, N = l.length := ⟨_, rfl⟩
  rw [← hN] at hn ⊢
  replace hN := Rg.hid hN
  replace hrow := Rg.hid hrow
  go_enter Try.func4, Try.ntmps4
  go_wp2
  go_loopw [3, 8] (fun vs vi wr => ∃ (i s : Nat), i ≤ N ∧ s ≤ i * 701 ∧ vi = .int .i64 i ∧ vs = .int .i64 s ∧ Hid (∀ c ∈ l.take i, c.x.size ≤ 70000) ∧ Below w.heap.size w wr) (fun _ vi _ => N - (intOf vi).toNat)
  case atStart => exact ⟨0, 0, Nat.zero_le _, Nat.zero_le _, rfl, rfl, (fun c hc => by simp at hc), Below.refl _ _⟩
  case round =>
    obtain ⟨i, s, hin, hs, rfl, rfl, hdat, hbw⟩ := hrel
    by_cases hlt : i < N
    · have hil : i < l.length := by rw [← hN.out]; exact hlt
      obtain ⟨b, o, rfl, hb, hat⟩ : ∃ b o, a = some ⟨b, o, none⟩ ∧ b < w.heap.size ∧ Rg.At w b o (callE.flat l) := by
        rcases hrow.out with h | h
        · rw [h] at hil; simp at hil
        · exact h
      have at1 : Rg.At wr b (o + i * 5) (callE.enc l[i]) := (hat.elem hil).below hbw hb
      have hds : Hid (l[i].x.size ≤ 70000 → ∀ c ∈ l.take (i + 1), c.x.size ≤ 70000) := fun h => data_step hil hdat.out h
      generalize l[i] = c at *
      obtain ⟨ck, cn, ct, cx, cm⟩ := c
      obtain ⟨c0, c1, c2, c3, c4⟩ := call_at at1
      dsimp only at hds
      have bn := hbw.alloc hbw.size (.cells #[.int .i64 ck, .string cn, .string ct, .string cx, .int .i64 cm] 31)
      have hz0 : (0 : Int) ≤ (i : Int) := by omega
      have hz1 : (i : Int) < (N : Int) := by omega
      clear at1 hat hil hrow hdat
      cases d1 : decide ((1000 : Int) < wrap64 ((cn.size : Int) + (ct.size : Int)))
      · by_cases h2 : (70000 : Int) < (cx.size : Int)
        · have d2 : decide ((70000 : Int) < (cx.size : Int)) = true := by simp only [decide_eq_true_eq]; exact h2
          clear h2 hds
          go_wp2
          clear d1
          go_ret
          exact ⟨true, rfl, (fun h => by cases h), bn⟩
        · have d2 : decide ((70000 : Int) < (cx.size : Int)) = false := by simp only [decide_eq_false_iff_not]; exact h2
          have hcx : cx.size ≤ 70000 := by omega
          have hd2 := Rg.hid (hds.out hcx)
          clear h2 hds
          go_wp2
          clear d1
          go_roundw
          case rel => exact ⟨i + 1, s + (cx.size / 100 + 1), by omega, by omega, by go_num, by go_num, hd2, bn⟩
          case measure => simp [intOf]; omega
      · clear hds
        go_wp2
        clear d1
        go_ret
        exact ⟨true, rfl, (fun h => by cases h), bn⟩
    · obtain rfl : i = N := by omega
      have hall : Hid (∀ c ∈ l, c.x.size ≤ 70000) := by
        have := hdat.out
        rw [List.take_of_length_le (by rw [← hN.out]; exact Nat.le_refl _)] at this
        exact this
      by_cases h1 : (1000 : Int) < (s : Int)
      · have d1 : decide ((1000 : Int) < (s : Int)) = true := by simp; omega
        go_wp2
        go_ret
        exact ⟨true, rfl, (fun h => by cases h), hbw⟩
      · have d1 : decide ((1000 : Int) < (s : Int)) = false := by simp; omega
        by_cases h2 : (150 : Int) < (i : Int)
        · have d2 : decide ((150 : Int) < (i : Int)) = true := by simp; omega
          go_wp2
          go_ret
          exact ⟨true, rfl, (fun h => by cases h), hbw⟩
        · have d2 : decide ((150 : Int) < (i : Int)) = false := by simp; omega
          go_wp2
          go_ret
          exact ⟨false, rfl, (fun _ => ⟨by rw [← hN.out]; omega, hall.out⟩), hbw⟩
end Go.Proofs.Ytempiajepomajaa
