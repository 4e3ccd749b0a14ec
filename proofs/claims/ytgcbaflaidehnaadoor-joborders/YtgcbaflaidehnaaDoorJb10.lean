/-
  Walks of layer 5: Parse.
-/
import Derived.Test.YtgcbaflaidehnaaDoorJb9
namespace Go.Proofs.YtgcbaflaidehnaaDoor
open Go.RowKit

theorem read_any (s : ByteArray) (w : World) (hw : Ok w) (hs : s.size ≤ 1000000) :
    Calls Tryd.prog 20 #[.string s] w fun e w' => e = .returned (jv (Job.parse s.data.toList).1) ∧ Below w.heap.size w w' := by
  rcases Nat.lt_or_ge (Job.wds s).length 6 with h | h
  · rw [Job.parse_short h]; exact read_short s w hw hs h
  · exact read_long s w hw hs h

set_option maxHeartbeats 2000000 in
set_option maxRecDepth 100000 in
theorem parse_any (s : ByteArray) (w : World) (hw : Ok w) (hs : s.size ≤ 1000000) :
    Calls Tryd.prog 10 #[.string s] w fun e w' => e = .returned (.tuple #[jv (Job.parse s.data.toList).1, .int .i64 (Job.parse s.data.toList).2]) ∧ Below w.heap.size w w' := by
  have bw : Below w.heap.size w (w.alloc (.cells zcells 29)) := below_alloc1 w _
  have hB0 : Blk w.heap.size zcells (w.alloc (.cells zcells 29)) := heap_alloc_new w _
  have HR : Hid (Calls Tryd.prog 20 #[.string s] (w.alloc (.cells zcells 29)) fun e w' => e = .returned (jv (Job.parse s.data.toList).1) ∧ Below w.heap.size w w' ∧ Blk w.heap.size zcells w') :=
    (read_any s _ (hw.below bw) hs).mono fun e w' ⟨h1, h2⟩ => ⟨h1, bw.trans (h2.mono bw.size), hB0.below h2 (by simp)⟩
  rcases Job.parse_cases s.data.toList with ⟨j, hj, hp⟩ | ⟨_, hp⟩
  · obtain ⟨g, n, k, u, f, t, c, z⟩ := j
    have hk : (k == 0) = false := by
      have := (Job.chk_ok.1 hj.1).2.1
      simp only [Job.knd, Bool.or_eq_true, beq_iff_eq] at this
      simp; omega
    have hr : Hid (Job.parse s.data.toList = (⟨g, n, k, u, f, t, c, z⟩, 0)) := hp
    rw [hp] at HR
    unfold jv at HR
    clear hp hj hw hs hB0
    go_enter Tryd.func10, Tryd.ntmps10
    go_wp2_with (go_at_call 20; refine HR.out.mono ?_; rintro e w1 ⟨rfl, b1, k1⟩; have c1 := k1.cell; have f1 := k1.thaw; have z1 := k1.lt)
    have kE := k1.set8 (.int .i64 g) (.int .i64 n) (.int .i64 k) (.string u) (.string f) (.string t) (.string c) (.int .i64 z)
    have bE := below_set8 b1 (Nat.le_refl _) (.int .i64 g) (.int .i64 n) (.int .i64 k) (.string u) (.string f) (.string t) (.string c) (.int .i64 z)
    clear c1 f1 z1 k1 b1 bw HR
    generalize World.setCell _ _ _ = WE at *
    have cE := kE.cell
    have zE := kE.lt
    exact bodyPost_ret (v := .tuple #[jv ⟨g, n, k, u, f, t, c, z⟩, .int .i64 0]) (by simp [results, Tryd.results10, go_sem, cE, zE, jv]) rfl ⟨by rw [hr.out], by first | exact bE | exact bE.alloc bE.size _⟩
  · have hr : Hid (Job.parse s.data.toList = (Job.zero, 3)) := hp
    rw [hp] at HR
    unfold jv Job.zero at HR
    clear hp hw hs hB0
    go_enter Tryd.func10, Tryd.ntmps10
    go_wp2_with (go_at_call 20; refine HR.out.mono ?_; rintro e w1 ⟨rfl, b1, k1⟩; have c1 := k1.cell; have f1 := k1.thaw; have z1 := k1.lt)
    have kE := k1.set8 (.int .i64 0) (.int .i64 0) (.int .i64 0) (.string ⟨#[]⟩) (.string ⟨#[]⟩) (.string ⟨#[]⟩) (.string ⟨#[]⟩) (.int .i64 0)
    have bE := below_set8 b1 (Nat.le_refl _) (.int .i64 0) (.int .i64 0) (.int .i64 0) (.string ⟨#[]⟩) (.string ⟨#[]⟩) (.string ⟨#[]⟩) (.string ⟨#[]⟩) (.int .i64 0)
    clear c1 f1 z1 k1 b1 bw HR
    generalize World.setCell _ _ _ = WE at *
    have cE := kE.cell
    have zE := kE.lt
    exact bodyPost_ret (v := .tuple #[jv Job.zero, .int .i64 3]) (by simp [results, Tryd.results10, go_sem, cE, zE, jv, Job.zero]) rfl ⟨by rw [hr.out], by first | exact bE | exact bE.alloc bE.size _⟩
end Go.Proofs.YtgcbaflaidehnaaDoor
