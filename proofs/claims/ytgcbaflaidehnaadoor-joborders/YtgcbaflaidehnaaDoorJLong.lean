/-
  Walks of the laws of layer 5: long.
-/
import Derived.Test.YtgcbaflaidehnaaDoorJb10
namespace Go.Proofs.YtgcbaflaidehnaaDoor
open Go.RowKit

/-- a job's cells from o on -/
def JAt (W : World) (b o : Nat) (j : Job.Jb) : Prop :=
  W.cell? ⟨b, o, none⟩ = some (.int .i64 j.g) ∧ W.cell? ⟨b, o + 1, none⟩ = some (.int .i64 j.n) ∧ W.cell? ⟨b, o + 2, none⟩ = some (.int .i64 j.k) ∧ W.cell? ⟨b, o + 3, none⟩ = some (.string j.u) ∧
  W.cell? ⟨b, o + 4, none⟩ = some (.string j.f) ∧ W.cell? ⟨b, o + 5, none⟩ = some (.string j.t) ∧ W.cell? ⟨b, o + 6, none⟩ = some (.string j.c) ∧ W.cell? ⟨b, o + 7, none⟩ = some (.int .i64 j.z)
theorem JAt.below {b o B : Nat} {j : Job.Jb} {W W' : World} (h : JAt W b o j) (hb : Below B W W') (hB : b < B) : JAt W' b o j := by
  have e (o : Nat) : W'.cell? ⟨b, o, none⟩ = W.cell? ⟨b, o, none⟩ := hb.cell (p := ⟨b, o, none⟩) hB
  unfold JAt at *
  simp only [e]
  exact h
/-- a row of jobs -/
def JRow (W : World) (a : Option Addr) (l : List Job.Jb) : Prop :=
  (a = none ∧ l = []) ∨ ∃ b o, a = some ⟨b, o, none⟩ ∧ b < W.heap.size ∧ ∀ (i : Nat) (h : i < l.length), JAt W b (o + i * 8) l[i]
theorem JRow.below {W W' : World} {B : Nat} {a : Option Addr} {l : List Job.Jb} (h : JRow W a l) (hb : Below B W W') (hB : W.heap.size ≤ B) : JRow W' a l := by
  rcases h with ⟨rfl, rfl⟩ | ⟨b, o, rfl, h1, h2⟩
  · exact .inl ⟨rfl, rfl⟩
  · refine .inr ⟨b, o, rfl, ?_, fun i hi => (h2 i hi).below hb (by omega)⟩
    have := hb.size
    rcases Nat.lt_or_ge b W'.heap.size with h' | h'
    · exact h'
    · exfalso
      have e := hb.block b (by omega)
      rw [Array.getElem?_eq_none h', Array.getElem?_eq_getElem h1] at e; cases e

/-- what 'long' says: some answer; where it is 'no' there are at most 60 jobs -/
def LongPost (l : List Job.Jb) (w : World) (e : Ending) (w' : World) : Prop := ∃ L : Bool, e = .returned (.bool L) ∧ (L = false → l.length ≤ 60) ∧ Below w.heap.size w w'

set_option maxHeartbeats 2000000 in
set_option maxRecDepth 100000 in
theorem long_any (a : Option Addr) (c : Nat) (l : List Job.Jb) (w : World) (hn : l.length ≤ maxLen) (hrow : JRow w a l) :
    Calls Tryd.prog 4 #[.slice a l.length c] w fun e w' => LongPost l w e w' := by
  unfold maxLen at hn
  rcases hrow with ⟨rfl, rfl⟩ | ⟨b, o, rfl, hb, hc⟩
  · go_enter Tryd.func4, Tryd.ntmps4
    go_wp2
    go_loop [7] (fun i => i = .int .i64 0) (fun _ => 0)
    case atStart => rfl
    case round =>
      obtain rfl := hrel
      go_wp2
      go_ret
      exact ⟨false, rfl, (fun _ => Nat.zero_le _), Below.refl _ _⟩
  have hc' : Hid (∀ (i : Nat) (h : i < l.length), JAt w b (o + i * 8) l[i]) := hc
  clear hc
  go_enter Tryd.func4, Tryd.ntmps4
  go_wp2
  go_loopw [7] (fun i wr => ∃ k : Nat, k ≤ l.length ∧ i = .int .i64 k ∧ Below w.heap.size w wr) (fun i _ => l.length - (intOf i).toNat)
  case atStart => exact ⟨0, Nat.zero_le _, rfl, Below.refl _ _⟩
  case round =>
    obtain ⟨k, hk, rfl, hbl⟩ := hrel
    by_cases hlt : k < l.length
    · obtain ⟨c0, c1, c2, c3, c4, c5, c6, c7⟩ := (hc'.out k hlt).below hbl hb
      generalize l[k] = j at *
      obtain ⟨jg, jn, jk, ju, jf, jt, jc, jz⟩ := j
      dsimp only at c0 c1 c2 c3 c4 c5 c6 c7
      have bn := hbl.alloc hbl.size (.cells #[.int .i64 jg, .int .i64 jn, .int .i64 jk, .string ju, .string jf, .string jt, .string jc, .int .i64 jz] 29)
      cases d1 : decide ((3000 : Int) < wrap64 (wrap64 ((ju.size : Int) + (jf.size : Int)) + (jt.size : Int)))
      · by_cases h2 : (3000 : Int) < (jc.size : Int)
        · have d2 : decide ((3000 : Int) < (jc.size : Int)) = true := by simp only [decide_eq_true_eq]; exact h2
          clear h2
          go_wp2
          clear d1
          go_ret
          exact ⟨true, rfl, (fun h => by cases h), bn⟩
        · have d2 : decide ((3000 : Int) < (jc.size : Int)) = false := by simp only [decide_eq_false_iff_not]; exact h2
          clear h2
          go_wp2
          clear d1
          go_roundw
          case rel => exact ⟨k + 1, by omega, by go_num, bn⟩
          case measure => simp [intOf]; omega
      · go_wp2
        clear d1
        go_ret
        exact ⟨true, rfl, (fun h => by cases h), bn⟩
    · obtain rfl : k = l.length := by omega
      go_wp2
      go_ret
      exact ⟨_, rfl, (fun h => by simp at h; omega), hbl⟩
end Go.Proofs.YtgcbaflaidehnaaDoor
