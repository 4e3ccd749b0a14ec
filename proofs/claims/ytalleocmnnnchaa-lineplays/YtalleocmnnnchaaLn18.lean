/-
  Layer 7: the statements' heavy.
-/
import Derived.Test.YtalleocmnnnchaaLn17
namespace Go.Proofs.Ytalleocmnnnchaa
open Go.RowKit

/-- a call's cells -/
def callE : Rg.El Ln.Cl := { enc := fun c => [.int .i64 c.k, .int .i64 c.y, .int .i64 c.a, .int .i64 c.n, .string c.s], m := 5, hm := fun _ => rfl, pos := by decide, one := fun x u hu => by simp at hu; rcases hu with rfl | rfl | rfl | rfl | rfl <;> rfl, ty := 33 }
theorem call_at {W : World} {b o : Nat} {k y a n : Int} {s : ByteArray} (h : Rg.At W b o (callE.enc ⟨k, y, a, n, s⟩)) : W.cell? ⟨b, o, none⟩ = some (.int .i64 k) ∧ W.cell? ⟨b, o + 1, none⟩ = some (.int .i64 y) ∧ W.cell? ⟨b, o + 2, none⟩ = some (.int .i64 a) ∧ W.cell? ⟨b, o + 3, none⟩ = some (.int .i64 n) ∧ W.cell? ⟨b, o + 4, none⟩ = some (.string s) := ⟨h 0 _ rfl, h 1 _ rfl, h 2 _ rfl, h 3 _ rfl, h 4 _ rfl⟩
/-- no calls, or a row of them -/
def CRow0 (W : World) (a : Option Addr) (l : List Ln.Cl) : Prop := l = [] ∨ ∃ b o, a = some ⟨b, o, none⟩ ∧ b < W.heap.size ∧ Rg.At W b o (callE.flat l)
theorem CRow0.below {W W' : World} {a : Option Addr} {l : List Ln.Cl} (h : CRow0 W a l) (hb : Below W.heap.size W W') : CRow0 W' a l := by
  rcases h with h | ⟨b, o, h1, h2, h3⟩
  · exact .inl h
  · exact .inr ⟨b, o, h1, Nat.lt_of_lt_of_le h2 hb.size, h3.below hb h2⟩
/-- the size of what calls bring -/
def Ln.wt : List Ln.Cl → Nat
  | [] => 0
  | c :: l => c.s.size + Ln.wt l
theorem Ln.wt_append : ∀ a b : List Ln.Cl, Ln.wt (a ++ b) = Ln.wt a + Ln.wt b
  | [], b => by simp [Ln.wt]
  | c :: a, b => by simp only [List.cons_append, Ln.wt, Ln.wt_append a b]; omega
theorem Ln.wt_take {l : List Ln.Cl} {i : Nat} (hi : i < l.length) : Ln.wt (l.take (i + 1)) = Ln.wt (l.take i) + l[i].s.size := by
  rw [List.take_succ_eq_append_getElem hi, Ln.wt_append]; simp [Ln.wt]
/-- what is not heavy -/
structure Light (l : List Ln.Cl) : Prop where
  len : l.length ≤ 200
  data : ∀ c ∈ l, c.s.size ≤ 50000
  wt : Ln.wt l ≤ 75000
/-- what 'heavy' says: some answer; where it is 'no' the calls are light -/
def HeavyPost (l : List Ln.Cl) (w : World) (e : Ending) (w' : World) : Prop := ∃ B : Bool, e = .returned (.bool B) ∧ (B = false → Light l) ∧ Below w.heap.size w w'
theorem data_step {l : List Ln.Cl} {i : Nat} (hi : i < l.length) (h : ∀ c ∈ l.take i, c.s.size ≤ 50000) (hx : l[i].s.size ≤ 50000) : ∀ c ∈ l.take (i + 1), c.s.size ≤ 50000 := by
  rw [List.take_succ_eq_append_getElem hi]
  intro c hc
  rcases List.mem_append.1 hc with h' | h'
  · exact h c h'
  · rw [List.mem_singleton.1 h']; exact hx

set_option maxHeartbeats 2000000 in
set_option maxRecDepth 100000 in
theorem heavy_any (a : Option Addr) (ca : Nat) (l : List Ln.Cl) (w : World) (hn : l.length ≤ 1000000000000000) (hrow : CRow0 w a l) :
    Calls Try.prog 9 #[.slice a l.length ca] w fun e w' => HeavyPost l w e w' := by
  obtain ⟨N, hN⟩ : ∃ N, N = l.length := ⟨_, rfl⟩
  rw [← hN] at hn ⊢
  replace hN := Rg.hid hN
  replace hrow := Rg.hid hrow
  go_enter Try.func9, Try.ntmps9
  go_wp2
  go_loopw [3, 8] (fun vs vi wr => ∃ (i s : Nat), i ≤ N ∧ s ≤ i * 1001 ∧ vi = .int .i64 i ∧ vs = .int .i64 s ∧ Hid (∀ c ∈ l.take i, c.s.size ≤ 50000) ∧ Hid (Ln.wt (l.take i) ≤ s * 50) ∧ Below w.heap.size w wr) (fun _ vi _ => N - (intOf vi).toNat)
  case atStart => exact ⟨0, 0, Nat.zero_le _, Nat.zero_le _, rfl, rfl, (fun c hc => by simp at hc), Nat.zero_le _, Below.refl _ _⟩
  case round =>
    obtain ⟨i, s, hin, hs, rfl, rfl, hdat, hwt, hbw⟩ := hrel
    by_cases hlt : i < N
    · have hil : i < l.length := by rw [← hN.out]; exact hlt
      obtain ⟨b, o, rfl, hb, hat⟩ : ∃ b o, a = some ⟨b, o, none⟩ ∧ b < w.heap.size ∧ Rg.At w b o (callE.flat l) := by
        rcases hrow.out with h | h
        · rw [h] at hil; simp at hil
        · exact h
      have at1 : Rg.At wr b (o + i * 5) (callE.enc l[i]) := (hat.elem hil).below hbw hb
      have hds : Hid (l[i].s.size ≤ 50000 → ∀ c ∈ l.take (i + 1), c.s.size ≤ 50000) := fun h => data_step hil hdat.out h
      have hdw : Hid (Ln.wt (l.take (i + 1)) ≤ (s + (l[i].s.size / 50 + 1)) * 50) := by
        have := hwt.out
        show _ ≤ _
        rw [Ln.wt_take hil]; omega
      generalize l[i] = c at *
      obtain ⟨ck, cy, ca, cm, cx⟩ := c
      obtain ⟨c0, c1, c2, c3, c4⟩ := call_at at1
      dsimp only at hds hdw
      have bn := hbw.alloc hbw.size (.cells #[.int .i64 ck, .int .i64 cy, .int .i64 ca, .int .i64 cm, .string cx] 33)
      have hz0 : (0 : Int) ≤ (i : Int) := by omega
      have hz1 : (i : Int) < (N : Int) := by omega
      clear at1 hat hil hrow hdat hwt
      by_cases h2 : (50000 : Int) < (cx.size : Int)
      · have d2 : decide ((50000 : Int) < (cx.size : Int)) = true := by simp only [decide_eq_true_eq]; exact h2
        clear h2 hds hdw
        go_wp2
        go_ret
        exact ⟨true, rfl, (fun h => by cases h), bn⟩
      · have d2 : decide ((50000 : Int) < (cx.size : Int)) = false := by simp only [decide_eq_false_iff_not]; exact h2
        have hcx : cx.size ≤ 50000 := by omega
        have hd2 := Rg.hid (hds.out hcx)
        clear h2 hds
        go_wp2
        go_roundw
        case rel => exact ⟨i + 1, s + (cx.size / 50 + 1), by omega, by omega, by go_num, by go_num, hd2, hdw, bn⟩
        case measure => simp [intOf]; omega
    · obtain rfl : i = N := by omega
      have hall : Hid (∀ c ∈ l, c.s.size ≤ 50000) := by
        have := hdat.out
        rw [List.take_of_length_le (by rw [← hN.out]; exact Nat.le_refl _)] at this
        exact this
      have hwa : Hid (Ln.wt l ≤ s * 50) := by
        have := hwt.out
        rw [List.take_of_length_le (by rw [← hN.out]; exact Nat.le_refl _)] at this
        exact this
      by_cases h1 : (1500 : Int) < (s : Int)
      · have d1 : decide ((1500 : Int) < (s : Int)) = true := by simp; omega
        go_wp2
        go_ret
        exact ⟨true, rfl, (fun h => by cases h), hbw⟩
      · have d1 : decide ((1500 : Int) < (s : Int)) = false := by simp; omega
        by_cases h2 : (200 : Int) < (i : Int)
        · have d2 : decide ((200 : Int) < (i : Int)) = true := by simp; omega
          go_wp2
          go_ret
          exact ⟨true, rfl, (fun h => by cases h), hbw⟩
        · have d2 : decide ((200 : Int) < (i : Int)) = false := by simp; omega
          go_wp2
          go_ret
          exact ⟨false, rfl, (fun _ => ⟨by rw [← hN.out]; omega, hall.out, by have := hwa.out; omega⟩), hbw⟩
end Go.Proofs.Ytalleocmnnnchaa
