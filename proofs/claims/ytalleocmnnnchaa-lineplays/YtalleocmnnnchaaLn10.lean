/-
  Layer 7: awake.
-/
import Derived.Test.YtalleocmnnnchaaLn9
namespace Go.Proofs.Ytalleocmnnnchaa
open Go.RowKit
/-- behind a call that hands back one value -/
def VPost (r : Value) (w : World) (e : Ending) (w' : World) : Prop := e = .returned r ∧ Below w.heap.size w w'

set_option maxHeartbeats 1000000 in
set_option maxRecDepth 100000 in
theorem awake_any (w : World) : Calls Try.prog 10 #[] w fun e w' => VPost (.bool true) w e w' := by
  have HN : Hid (∀ W, Calls Try.prog 11 #[] W fun e w' => e = .returned (.agg #[.string ⟨#[]⟩, .int .i64 0, .slice none 0 0, .slice none 0 0, .string ⟨#[]⟩, .int .i64 0, .slice none 0 0, .slice none 0 0, .bool true]) ∧ Below W.heap.size W w') := fun W => lnew_any W
  have HS : Hid (∀ W, Calls Try.prog 18 #[.agg #[.string ⟨#[]⟩, .int .i64 0, .slice none 0 0, .slice none 0 0, .string ⟨#[]⟩, .int .i64 0, .slice none 0 0, .slice none 0 0, .bool true], .int .i64 1, .string ⟨#[97, 98]⟩] W fun e w' => e = .returned (.tuple #[.agg #[.string ⟨#[]⟩, .int .i64 0, .slice none 0 0, .slice none 0 0, .string ⟨#[97, 98]⟩, .int .i64 0, .slice none 0 0, .slice none 0 0, .bool true], .int .i64 0]) ∧ Below W.heap.size W w') := fun W => lsend_ok1 ⟨#[]⟩ 0 none 0 0 none 0 0 ⟨#[]⟩ 0 none 0 0 none 0 0 ⟨#[97, 98]⟩ W (by decide)
  have HL : Hid (∀ W, Calls Try.prog 21 #[.agg #[.string ⟨#[]⟩, .int .i64 0, .slice none 0 0, .slice none 0 0, .string ⟨#[97, 98]⟩, .int .i64 0, .slice none 0 0, .slice none 0 0, .bool true], .int .i64 1, .int .i64 0] W fun e w' => ∃ ba bc ga gc, e = .returned (.tuple #[.agg #[.string ⟨#[]⟩, .int .i64 0, .slice none 0 0, .slice none 0 0, .string ⟨#[98]⟩, .int .i64 0, .slice ba 0 bc, .slice ga 1 gc, .bool true], .int .i64 0]) ∧ Below W.heap.size W w') := fun W => (llose_ok1 ⟨#[]⟩ 0 none 0 0 none 0 0 ⟨#[97, 98]⟩ 0 none 0 0 none 0 0 0 [] [] W (by decide) (by decide) (by omega) (by omega) rfl rfl (by decide) (by decide) (fun y hy => by cases hy) (fun y hy => by cases hy) List.Pairwise.nil List.Pairwise.nil IRow.nil IRow.nil).mono fun e w' ⟨ba, bc, ga, gc, h1, _, _, _, _, h6⟩ => ⟨ba, bc, ga, gc, h1, h6⟩
  have HT : Hid (∀ W ba bc ga gc, Calls Try.prog 19 #[.agg #[.string ⟨#[]⟩, .int .i64 0, .slice none 0 0, .slice none 0 0, .string ⟨#[98]⟩, .int .i64 0, .slice ba 0 bc, .slice ga 1 gc, .bool true], .int .i64 1, .int .i64 9] W fun e w' => e = .returned (.tuple #[.agg #[.string ⟨#[]⟩, .int .i64 0, .slice none 0 0, .slice none 0 0, .string ⟨#[]⟩, .int .i64 1, .slice ba 0 bc, .slice ga 1 gc, .bool true], .string ⟨#[98]⟩]) ∧ Below W.heap.size W w') := fun W ba bc ga gc => ltake_some1 ⟨#[]⟩ 0 none 0 0 none 0 0 ⟨#[98]⟩ 0 ba 0 bc ga 1 gc true 9 1 W (by omega) (by decide) (by decide) (by omega) (by omega)
  go_enter Try.func10, Try.ntmps10
  go_upto_region 2 with (first
    | (go_at_call 11; refine (HN.out _).mono ?_; rintro e w1 ⟨rfl, b1⟩)
    | (go_at_call 18; refine (HS.out _).mono ?_; rintro e w2 ⟨rfl, b2⟩))
  have kV : Rg.Bk w2.heap.size [.string ⟨#[]⟩, .int .i64 0, .slice none 0 0, .slice none 0 0, .string ⟨#[97, 98]⟩, .int .i64 0, .slice none 0 0, .slice none 0 0, .bool true] 30 (w2.alloc (.cells #[.string ⟨#[]⟩, .int .i64 0, .slice none 0 0, .slice none 0 0, .string ⟨#[97, 98]⟩, .int .i64 0, .slice none 0 0, .slice none 0 0, .bool true] 30)) := Rg.Bk.new rfl
  have hb := Rg.chain (Rg.chain b1 b2) (Rg.al1 w2 (.cells #[.string ⟨#[]⟩, .int .i64 0, .slice none 0 0, .slice none 0 0, .string ⟨#[97, 98]⟩, .int .i64 0, .slice none 0 0, .slice none 0 0, .bool true] 30))
  have hVw : w.heap.size ≤ w2.heap.size := (Rg.chain b1 b2).size
  clear b1 b2 HN HS
  generalize World.alloc _ _ = w3 at *
  generalize w2.heap.size = B at *
  have z0 : w3.cell? ⟨B, 0, none⟩ = some (.string ⟨#[]⟩) := kV.cell 0
  have z1 : w3.cell? ⟨B, 1, none⟩ = some (.int .i64 0) := kV.cell 1
  have z2 : w3.cell? ⟨B, 2, none⟩ = some (.slice none 0 0) := kV.cell 2
  have z3 : w3.cell? ⟨B, 3, none⟩ = some (.slice none 0 0) := kV.cell 3
  have z4 : w3.cell? ⟨B, 4, none⟩ = some (.string ⟨#[97, 98]⟩) := kV.cell 4
  have z5 : w3.cell? ⟨B, 5, none⟩ = some (.int .i64 0) := kV.cell 5
  have z6 : w3.cell? ⟨B, 6, none⟩ = some (.slice none 0 0) := kV.cell 6
  have z7 : w3.cell? ⟨B, 7, none⟩ = some (.slice none 0 0) := kV.cell 7
  have z8 : w3.cell? ⟨B, 8, none⟩ = some (.bool true) := kV.cell 8
  have kV' := Rg.hid kV
  have hb' := Rg.hid hb
  clear kV hb
  go_upto_region 3 with (go_at_call 21; refine (HL.out _).mono ?_; rintro e w4 ⟨ba, bc, ga, gc, rfl, b4⟩; have k4 := kV'.out.below b4 kV'.out.lt; have y0 := k4.cell 0; have y1 := k4.cell 1; have y2 := k4.cell 2; have y3 := k4.cell 3; have y4 := k4.cell 4; have y5 := k4.cell 5; have y6 := k4.cell 6; have y7 := k4.cell 7; have y8 := k4.cell 8; have yf := k4.thaw; simp only [List.getElem?_cons_zero, List.getElem?_cons_succ] at y0 y1 y2 y3 y4 y5 y6 y7 y8)
  obtain ⟨k5, o5⟩ := ret9 k4 rfl (.string ⟨#[]⟩) (.int .i64 0) (.slice none 0 0) (.slice none 0 0) (.string ⟨#[98]⟩) (.int .i64 0) (.slice ba 0 bc) (.slice ga 1 gc) (.bool true)
  have hb5 := (Rg.chain hb'.out b4).trans (o5.bel hVw)
  clear y0 y1 y2 y3 y4 y5 y6 y7 y8 yf z0 z1 z2 z3 z4 z5 z6 z7 z8 k4 o5 kV' hb' b4 HL
  generalize World.setCell _ _ _ = w5 at *
  have z0 : w5.cell? ⟨B, 0, none⟩ = some (.string ⟨#[]⟩) := k5.cell 0
  have z1 : w5.cell? ⟨B, 1, none⟩ = some (.int .i64 0) := k5.cell 1
  have z2 : w5.cell? ⟨B, 2, none⟩ = some (.slice none 0 0) := k5.cell 2
  have z3 : w5.cell? ⟨B, 3, none⟩ = some (.slice none 0 0) := k5.cell 3
  have z4 : w5.cell? ⟨B, 4, none⟩ = some (.string ⟨#[98]⟩) := k5.cell 4
  have z5 : w5.cell? ⟨B, 5, none⟩ = some (.int .i64 0) := k5.cell 5
  have z6 : w5.cell? ⟨B, 6, none⟩ = some (.slice ba 0 bc) := k5.cell 6
  have z7 : w5.cell? ⟨B, 7, none⟩ = some (.slice ga 1 gc) := k5.cell 7
  have z8 : w5.cell? ⟨B, 8, none⟩ = some (.bool true) := k5.cell 8
  have k5' := Rg.hid k5
  have hb5' := Rg.hid hb5
  clear k5 hb5
  go_upto_region 4 with (go_at_call 19; refine (HT.out _ _ _ _ _).mono ?_; rintro e w6 ⟨rfl, b6⟩; have k6 := k5'.out.below b6 k5'.out.lt; have y0 := k6.cell 0; have y1 := k6.cell 1; have y2 := k6.cell 2; have y3 := k6.cell 3; have y4 := k6.cell 4; have y5 := k6.cell 5; have y6 := k6.cell 6; have y7 := k6.cell 7; have y8 := k6.cell 8; have yf := k6.thaw; simp only [List.getElem?_cons_zero, List.getElem?_cons_succ] at y0 y1 y2 y3 y4 y5 y6 y7 y8)
  obtain ⟨k7, o7⟩ := ret9 k6 rfl (.string ⟨#[]⟩) (.int .i64 0) (.slice none 0 0) (.slice none 0 0) (.string ⟨#[]⟩) (.int .i64 1) (.slice ba 0 bc) (.slice ga 1 gc) (.bool true)
  have hb7 := Rg.hid ((Rg.chain hb5'.out b6).trans (o7.bel hVw))
  clear y0 y1 y2 y3 y4 y5 y6 y7 y8 yf z0 z1 z2 z3 z4 z5 z6 z7 z8 k6 o7 k5' hb5' b6 HT
  generalize World.setCell _ _ _ = w7 at *
  have z5 : w7.cell? ⟨B, 5, none⟩ = some (.int .i64 1) := k7.cell 5
  have z7 : w7.cell? ⟨B, 7, none⟩ = some (.slice ga 1 gc) := k7.cell 7
  clear k7
  go_wp2
  go_ret
  exact ⟨rfl, hb7.out⟩
end Go.Proofs.Ytalleocmnnnchaa
