/-
  Layer 8: the statements' same, of one chat told twice.
-/
import Derived.Test.YtpggnhnpphbaeaaDoorCh30
import Derived.Test.YtpggnhnpphbaeaaDoorCh16
namespace Go.Proofs.YtpggnhnpphbaeaaDoor
open Go.RowKit

set_option maxHeartbeats 2000000 in
set_option maxRecDepth 100000 in
theorem same_cells (a b : Option Addr) (n ca cb : Nat) (cstep cwant : Int) (cseen : ByteArray) (cwait cpat : Int) (cover cfailed : Bool) (w : World)
    (HS : Hid (∀ W, Below w.heap.size w W → Calls Tryd.prog 14 #[.slice a n ca, .slice b n cb] W fun e w' => e = .returned (.bool true) ∧ Below W.heap.size W w')) :
    Calls Tryd.prog 8 #[.agg #[.slice a n ca, .int .i64 cstep, .int .i64 cwant, .string cseen, .int .i64 cwait, .int .i64 cpat, .bool cover, .bool cfailed], .agg #[.slice b n cb, .int .i64 cstep, .int .i64 cwant, .string cseen, .int .i64 cwait, .int .i64 cpat, .bool cover, .bool cfailed]] w fun e w' => e = .returned (.bool true) ∧ Below w.heap.size w w' := by
  have kP : Hid (Rg.Bk w.heap.size [.slice a n ca, .int .i64 cstep, .int .i64 cwant, .string cseen, .int .i64 cwait, .int .i64 cpat, .bool cover, .bool cfailed] 30 ((w.alloc (.cells #[.slice a n ca, .int .i64 cstep, .int .i64 cwant, .string cseen, .int .i64 cwait, .int .i64 cpat, .bool cover, .bool cfailed] 30)).alloc (.cells #[.slice b n cb, .int .i64 cstep, .int .i64 cwant, .string cseen, .int .i64 cwait, .int .i64 cpat, .bool cover, .bool cfailed] 30))) := (Rg.Bk.new rfl).old _
  have kQ : Hid (Rg.Bk (w.heap.size + 1) [.slice b n cb, .int .i64 cstep, .int .i64 cwant, .string cseen, .int .i64 cwait, .int .i64 cpat, .bool cover, .bool cfailed] 30 ((w.alloc (.cells #[.slice a n ca, .int .i64 cstep, .int .i64 cwant, .string cseen, .int .i64 cwait, .int .i64 cpat, .bool cover, .bool cfailed] 30)).alloc (.cells #[.slice b n cb, .int .i64 cstep, .int .i64 cwant, .string cseen, .int .i64 cwait, .int .i64 cpat, .bool cover, .bool cfailed] 30))) := Rg.Bk.new (by simp)
  have hb1 := Rg.hid (Rg.al2 w (.cells #[.slice a n ca, .int .i64 cstep, .int .i64 cwant, .string cseen, .int .i64 cwait, .int .i64 cpat, .bool cover, .bool cfailed] 30) (.cells #[.slice b n cb, .int .i64 cstep, .int .i64 cwant, .string cseen, .int .i64 cwait, .int .i64 cpat, .bool cover, .bool cfailed] 30))
  have d1 : (cstep == cstep) = true := by simp
  have d2 : (cwant == cwant) = true := by simp
  have d3 : (cseen.toList == cseen.toList) = true := by simp
  have d4 : (cwait == cwait) = true := by simp
  have d5 : (cpat == cpat) = true := by simp
  have d6 : (cover == cover) = true := by simp
  have d7 : (cfailed == cfailed) = true := by simp
  go_enter Tryd.func8, Tryd.ntmps8
  go_upto_region 1 with fail
  generalize World.alloc _ _ = w1 at *
  obtain ⟨P, hP⟩ : ∃ P, P = w.heap.size := ⟨_, rfl⟩
  obtain ⟨Q, hQ⟩ : ∃ Q, Q = w.heap.size + 1 := ⟨_, rfl⟩
  rw [← hQ] at kQ ⊢
  rw [← hP] at kP ⊢
  clear hP hQ
  have x0 : w1.cell? ⟨P, 0, none⟩ = some (.slice a n ca) := kP.out.cell 0
  have y0 : w1.cell? ⟨Q, 0, none⟩ = some (.slice b n cb) := kQ.out.cell 0
  go_wp2_with (go_at_call 14; refine (HS.out _ hb1.out).mono ?_; rintro e w2 ⟨rfl, b2⟩; have kP2 := kP.out.below b2 kP.out.lt; have kQ2 := kQ.out.below b2 kQ.out.lt; have x1 := kP2.cell 1; have y1 := kQ2.cell 1; have x2 := kP2.cell 2; have y2 := kQ2.cell 2; have x3 := kP2.cell 3; have y3 := kQ2.cell 3; have x4 := kP2.cell 4; have y4 := kQ2.cell 4; have x5 := kP2.cell 5; have y5 := kQ2.cell 5; have x6 := kP2.cell 6; have y6 := kQ2.cell 6; have x7 := kP2.cell 7; have y7 := kQ2.cell 7; simp only [List.getElem?_cons_zero, List.getElem?_cons_succ] at x1 y1 x2 y2 x3 y3 x4 y4 x5 y5 x6 y6 x7 y7)
  go_ret
  exact ⟨rfl, Rg.chain hb1.out b2⟩
theorem same_any (v1 v2 : Value) (c : Ch.Co) (w : World) (h1 : CAt w v1 c) (h2 : CAt w v2 c) (hl : c.steps.length ≤ 1000000) (hwl : ∀ x ∈ c.steps, x.wants.length ≤ 1000000 ∧ x.nudge.length ≤ 1000000) :
    Calls Tryd.prog 8 #[v1, v2] w fun e w' => e = .returned (.bool true) ∧ Below w.heap.size w w' := by
  obtain ⟨sa, sc, vs, rfl, hr, hx, _⟩ := h1
  obtain ⟨sb, sd, ws, rfl, hr2, hx2, _⟩ := h2
  exact same_cells sa sb _ sc sd c.step c.want _ c.wait c.pat c.over c.failed w (fun W hW => steps_same sa sc vs sb sd ws c.steps W (by omega) (fun x hx => by have := hwl x hx; omega) (hr.below hW).1 (hr2.below hW).1 (hx.below hW).old (hx2.below hW).old)
end Go.Proofs.YtpggnhnpphbaeaaDoor
