/-
  Walks of layer 10: which job a word may have.
-/
import Derived.Test.YtgnjjbpfgokndaaDoorCmdA
namespace Go.Proofs.YtgnjjbpfgokndaaDoor
open Go.RowKit

theorem be_of {s : ByteArray} (h : ¬ s = ⟨#[]⟩) : (s.toList == []) = false := by
  rw [tl_eq]; refine beq_eq_false_iff_ne.2 fun e => h (Job.ba_of e)

set_option maxHeartbeats 1000000 in
theorem isJobOf_any (v g n k : Int) (u f t c : ByteArray) (z : Int) (w : World) :
    Calls Tryd.prog 14 #[.int .i64 v, .agg #[.int .i64 g, .int .i64 n, .int .i64 k, .string u, .string f, .string t, .string c, .int .i64 z]] w fun e w' => e = .returned (.bool (Cmd.jobOf v ⟨g, n, k, u, f, t, c, z⟩)) ∧ Below w.heap.size w w' := by
  have bw : Below w.heap.size w (w.alloc (.cells #[.int .i64 g, .int .i64 n, .int .i64 k, .string u, .string f, .string t, .string c, .int .i64 z] 25)) := below_alloc1 w _
  by_cases h1 : v = 1
  · subst h1
    have hr : Hid (Cmd.jobOf 1 ⟨g, n, k, u, f, t, c, z⟩ = (k == 1 || k == 2)) := rfl
    by_cases k1 : k = 1
    · subst k1
      go_enter Tryd.func14, Tryd.ntmps14
      go_wp2
      go_ret
      exact ⟨ret_bool (by rw [hr.out]; rfl), bw⟩
    · have d1 := beq0 k1
      by_cases k2 : k = 2
      · subst k2
        go_enter Tryd.func14, Tryd.ntmps14
        go_wp2
        go_ret
        exact ⟨ret_bool (by rw [hr.out]; rfl), bw⟩
      · have d2 := beq0 k2
        rw [d1, d2] at hr
        clear k1 k2
        go_enter Tryd.func14, Tryd.ntmps14
        go_wp2
        go_ret
        exact ⟨ret_bool (by rw [hr.out]; rfl), bw⟩
  have e1 := beq0 h1
  by_cases h2 : v = 2
  · subst h2
    have hr : Hid (Cmd.jobOf 2 ⟨g, n, k, u, f, t, c, z⟩ = (k == 3)) := rfl
    by_cases k1 : k = 3
    · subst k1
      go_enter Tryd.func14, Tryd.ntmps14
      go_wp2
      go_ret
      exact ⟨ret_bool (by rw [hr.out]; rfl), bw⟩
    · have d1 := beq0 k1
      rw [d1] at hr
      clear k1
      go_enter Tryd.func14, Tryd.ntmps14
      go_wp2
      go_ret
      exact ⟨ret_bool (by rw [hr.out]), bw⟩
  have e2 := beq0 h2
  have hr : Cmd.jobOf v ⟨g, n, k, u, f, t, c, z⟩ = decide ((⟨g, n, k, u, f, t, c, z⟩ : Job.Jb) = Job.zero) := by unfold Cmd.jobOf; rw [if_neg h1, if_neg h2]
  clear h1 h2
  by_cases hz : (⟨g, n, k, u, f, t, c, z⟩ : Job.Jb) = Job.zero
  · have hr : Hid (Cmd.jobOf v ⟨g, n, k, u, f, t, c, z⟩ = true) := hr.trans (decide_eq_true hz)
    unfold Job.zero at hz
    simp only [Job.Jb.mk.injEq] at hz
    obtain ⟨rfl, rfl, rfl, rfl, rfl, rfl, rfl, rfl⟩ := hz
    go_enter Tryd.func14, Tryd.ntmps14
    go_wp2
    go_ret
    exact ⟨ret_bool (by rw [hr.out]), bw⟩
  have hr : Hid (Cmd.jobOf v ⟨g, n, k, u, f, t, c, z⟩ = false) := hr.trans (decide_eq_false hz)
  by_cases q0 : g = 0
  · subst q0
    by_cases q1 : n = 0
    · subst q1
      by_cases q2 : k = 0
      · subst q2
        by_cases q3 : u = ⟨#[]⟩
        · subst q3
          by_cases q4 : f = ⟨#[]⟩
          · subst q4
            by_cases q5 : t = ⟨#[]⟩
            · subst q5
              by_cases q6 : c = ⟨#[]⟩
              · subst q6
                by_cases q7 : z = 0
                · subst q7
                  exact absurd rfl hz
                · have dd := beq0 q7
                  clear q7 hz
                  go_enter Tryd.func14, Tryd.ntmps14
                  go_wp2
                  go_ret
                  exact ⟨ret_bool (by rw [hr.out]), bw⟩
              · have dd := be_of q6
                clear q6 hz
                go_enter Tryd.func14, Tryd.ntmps14
                go_wp2
                go_ret
                exact ⟨ret_bool (by rw [hr.out]), bw⟩
            · have dd := be_of q5
              clear q5 hz
              go_enter Tryd.func14, Tryd.ntmps14
              go_wp2
              go_ret
              exact ⟨ret_bool (by rw [hr.out]), bw⟩
          · have dd := be_of q4
            clear q4 hz
            go_enter Tryd.func14, Tryd.ntmps14
            go_wp2
            go_ret
            exact ⟨ret_bool (by rw [hr.out]), bw⟩
        · have dd := be_of q3
          clear q3 hz
          go_enter Tryd.func14, Tryd.ntmps14
          go_wp2
          go_ret
          exact ⟨ret_bool (by rw [hr.out]), bw⟩
      · have dd := beq0 q2
        clear q2 hz
        go_enter Tryd.func14, Tryd.ntmps14
        go_wp2
        go_ret
        exact ⟨ret_bool (by rw [hr.out]), bw⟩
    · have dd := beq0 q1
      clear q1 hz
      go_enter Tryd.func14, Tryd.ntmps14
      go_wp2
      go_ret
      exact ⟨ret_bool (by rw [hr.out]), bw⟩
  · have dd := beq0 q0
    clear q0 hz
    go_enter Tryd.func14, Tryd.ntmps14
    go_wp2
    go_ret
    exact ⟨ret_bool (by rw [hr.out]), bw⟩
end Go.Proofs.YtgnjjbpfgokndaaDoor
