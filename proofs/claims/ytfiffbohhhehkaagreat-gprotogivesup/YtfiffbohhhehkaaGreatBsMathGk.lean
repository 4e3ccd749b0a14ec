/-
  Mathematics of layer 15: how many pieces wait.
-/
import Derived.Test.YtfiffbohhhehkaaGreatBuMath
namespace Go.Proofs.YtfiffbohhhehkaaGreat
namespace Gp
theorem q_begins (d : Dr) (q low : Int) : (begins d q low).1.queue = d.queue := by
  unfold begins
  dsimp only
  repeat' split
  all_goals rfl
theorem q_closes (d : Dr) : (closes d).1.queue = d.queue := by
  unfold closes
  repeat' split
  all_goals rfl
theorem q_takes2 (d : Dr) (f : Gf.Fr) : (takes2 d f).1.queue = d.queue := by
  have ho : (if d.phase = 1 ∧ d.step = 2 then open_ d else d).queue = d.queue := by split <;> rfl
  unfold takes2
  generalize (if d.phase = 1 ∧ d.step = 2 then open_ d else d) = g at *
  dsimp only
  repeat' split
  all_goals exact ho
theorem q_takes (d : Dr) (f : Gf.Fr) : (takes d f).1.queue = d.queue := by
  unfold takes
  dsimp only
  split
  · exact q_begins _ _ _
  split
  · exact q_closes _
  · exact q_takes2 _ f
theorem q_cut (q : List Pc) (k : Nat) : (cutQ q k).length ≤ q.length := by
  unfold cutQ
  split
  · exact Nat.le_refl _
  · split
    · simp
    · simp
theorem q_fillN : ∀ (f : Nat) (d : Dr) (out : List UInt8), (fillN f d out).1.queue.length ≤ d.queue.length
  | 0, _, _ => Nat.le_refl _
  | f + 1, d, out => by
    unfold fillN
    cases hq : d.queue with
    | nil => dsimp only; rw [hq]; exact Nat.le_refl _
    | cons p q =>
      dsimp only
      split
      · refine Nat.le_trans (q_fillN f (fill1 d p).1 _) ?_
        have := q_cut d.queue (min p.data.size d.size.toNat)
        rw [hq] at this
        exact (by rw [← hq] at this ⊢; exact this)
      · rw [hq]; exact Nat.le_refl _
theorem q_feedN : ∀ (f : Nat) (d : Dr) (out came : List UInt8), (feedN f d out came).1.queue = d.queue
  | 0, _, _, _ => rfl
  | f + 1, d, out, came => by
    unfold feedN
    dsimp only
    split
    · rw [q_feedN f, q_takes]
    · rfl
theorem q_feed (d : Dr) (s : List UInt8) : (feed d s).1.queue.length ≤ d.queue.length := by
  unfold feed fill
  dsimp only
  refine Nat.le_trans (q_fillN 8 _ []) ?_
  rw [q_feedN]
  exact Nat.le_refl _
theorem q_send (d : Dr) (p : Pc) : (send d p).1.queue.length ≤ d.queue.length + 1 := by
  unfold send
  split
  · exact Nat.le_succ _
  · unfold fill
    refine Nat.le_trans (q_fillN 8 _ []) ?_
    simp
theorem q_close (d : Dr) : (close d).1.queue = d.queue := by
  unfold close
  split <;> rfl
theorem q_tick (d : Dr) : (tick d).1.queue = d.queue := by
  have key : (if 2 ≤ (own d).wait then { own d with wait := 0 } else { own d with at_ := (own d).at_ + (own d).buf.length, buf := [], wait := 0 }).queue = d.queue := by split <;> rfl
  unfold tick
  dsimp only at *
  generalize (if 2 ≤ (own d).wait then ({ own d with wait := 0 } : Dr) else { own d with at_ := (own d).at_ + (own d).buf.length, buf := [], wait := 0 }) = e at *
  repeat' split
  all_goals exact key
end Gp
end Go.Proofs.YtfiffbohhhehkaaGreat
