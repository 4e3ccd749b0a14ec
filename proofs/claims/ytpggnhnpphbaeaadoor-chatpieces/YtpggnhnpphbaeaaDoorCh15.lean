/-
  Layer 8: awake.
-/
import Derived.Test.YtpggnhnpphbaeaaDoorCh14
import Derived.Test.YtpggnhnpphbaeaaDoorMathZ
namespace Go.Proofs.YtpggnhnpphbaeaaDoor
open Go.RowKit

theorem ex_ok1 : COk Ch.ex1 := ⟨by decide, by decide, by decide, by decide⟩
theorem ex_ok2 : COk Ch.ex2 := ⟨by decide, by decide, by decide, by decide⟩
theorem gpost_cells {w w' : World} {c : Ch.Co} {t : List UInt8} {e : Ending} (h : GPost w (c, t) e w') : ∃ sa sc, e = .returned (.tuple #[.agg (CC sa c.steps.length sc c.step c.want ⟨c.seen.toArray⟩ c.wait c.pat c.over c.failed).toArray, .string ⟨t.toArray⟩]) ∧ CAt w' (.agg (CC sa c.steps.length sc c.step c.want ⟨c.seen.toArray⟩ c.wait c.pat c.over c.failed).toArray) c ∧ Below w.heap.size w w' := by
  obtain ⟨v, rfl, hA, hb⟩ := h
  have h0 := hA
  obtain ⟨sa, sc, vs, rfl, -⟩ := hA
  exact ⟨sa, sc, rfl, h0, hb⟩

set_option maxHeartbeats 2000000 in
set_option maxRecDepth 100000 in
theorem awake_any (w : World) (hE : Env w) : Calls Tryd.prog 5 #[] w fun e w' => e = .returned (.bool true) ∧ Below w.heap.size w w' := by
  have HP : Hid (∀ W, Below w.heap.size w W → Calls Tryd.prog 10 #[.string ⟨#[111, 103, 105, 110, 58, 45, 92, 114, 92, 99, 45, 111, 103, 105, 110, 58, 32, 117, 117, 99, 112, 32, 119, 111, 114, 100, 58, 32, 120, 92, 99]⟩] W fun e w' => ∃ a c vs, e = .returned (.tuple #[.slice a 2 c, .int .i64 0]) ∧ Hid (Rg.Tow stepE w' a vs) ∧ Hid (StsAt w' vs Ch.exSteps) ∧ Below W.heap.size W w') := fun W hW => by
    have := parse_any Ch.exText W (hE.below hW)
    rw [Ch.ex_parse] at this
    exact this.mono fun e w' ⟨a, c, vs, h1, h2, h3, _, h5⟩ => ⟨a, c, vs, h1, h2, h3, h5⟩
  have HB : Hid (∀ W a c vs, Below w.heap.size w W → Rg.Tow stepE W a vs → StsAt W vs Ch.exSteps → Calls Tryd.prog 6 #[.slice a 2 c, .int .i64 3] W fun e w' => ∃ s1 c1, e = .returned (.tuple #[.agg #[.slice s1 2 c1, .int .i64 0, .int .i64 0, .string ⟨#[]⟩, .int .i64 0, .int .i64 3, .bool false, .bool false], .string ⟨#[]⟩]) ∧ Hid (CAt w' (.agg #[.slice s1 2 c1, .int .i64 0, .int .i64 0, .string ⟨#[]⟩, .int .i64 0, .int .i64 3, .bool false, .bool false]) Ch.ex1) ∧ Below W.heap.size W w') := fun W a c vs hW h1 h2 => by
    have := begin_any a c vs Ch.exSteps 3 W (hE.below hW).max (by decide) (by decide) (by decide) h1 h2
    rw [Ch.ex_begin] at this
    exact this.mono fun e w' q => gpost_cells q
  have H1 : Hid (∀ W s1 c1, Below w.heap.size w W → CAt W (.agg #[.slice s1 2 c1, .int .i64 0, .int .i64 0, .string ⟨#[]⟩, .int .i64 0, .int .i64 3, .bool false, .bool false]) Ch.ex1 → Calls Tryd.prog 7 #[.agg #[.slice s1 2 c1, .int .i64 0, .int .i64 0, .string ⟨#[]⟩, .int .i64 0, .int .i64 3, .bool false, .bool false], .string ⟨#[108, 111, 103, 105, 110, 58, 32]⟩] W fun e w' => ∃ s2 c2, e = .returned (.tuple #[.agg #[.slice s2 2 c2, .int .i64 1, .int .i64 0, .string ⟨#[32]⟩, .int .i64 0, .int .i64 3, .bool false, .bool false], .string ⟨#[117, 117, 99, 112, 13]⟩]) ∧ Hid (CAt w' (.agg #[.slice s2 2 c2, .int .i64 1, .int .i64 0, .string ⟨#[32]⟩, .int .i64 0, .int .i64 3, .bool false, .bool false]) Ch.ex2) ∧ Below W.heap.size W w') := fun W s1 c1 hW h1 => by
    have := feed_any _ Ch.ex1 ⟨#[108, 111, 103, 105, 110, 58, 32]⟩ W (hE.below hW).max ex_ok1 (by decide) h1
    rw [Ch.ex_feed1] at this
    exact this.mono fun e w' q => gpost_cells q
  have H2 : Hid (∀ W s2 c2, Below w.heap.size w W → CAt W (.agg #[.slice s2 2 c2, .int .i64 1, .int .i64 0, .string ⟨#[32]⟩, .int .i64 0, .int .i64 3, .bool false, .bool false]) Ch.ex2 → Calls Tryd.prog 7 #[.agg #[.slice s2 2 c2, .int .i64 1, .int .i64 0, .string ⟨#[32]⟩, .int .i64 0, .int .i64 3, .bool false, .bool false], .string ⟨#[80, 97, 115, 115, 119, 111, 114, 100, 58, 32]⟩] W fun e w' => ∃ s3 c3, e = .returned (.tuple #[.agg #[.slice s3 2 c3, .int .i64 2, .int .i64 0, .string ⟨#[32]⟩, .int .i64 0, .int .i64 3, .bool true, .bool false], .string ⟨#[120]⟩]) ∧ Hid (CAt w' (.agg #[.slice s3 2 c3, .int .i64 2, .int .i64 0, .string ⟨#[32]⟩, .int .i64 0, .int .i64 3, .bool true, .bool false]) Ch.ex3) ∧ Below W.heap.size W w') := fun W s2 c2 hW h1 => by
    have := feed_any _ Ch.ex2 ⟨#[80, 97, 115, 115, 119, 111, 114, 100, 58, 32]⟩ W (hE.below hW).max ex_ok2 (by decide) h1
    rw [Ch.ex_feed2] at this
    exact this.mono fun e w' q => gpost_cells q
  clear hE
  go_enter Tryd.func5, Tryd.ntmps5
  go_upto_region 5 with (first
    | (go_at_call 10; refine (HP.out _ (Below.refl _ _)).mono ?_; rintro e w1 ⟨a, c, vs, rfl, hT1, hX1, b1⟩)
    | (go_at_call 6; refine (HB.out _ _ _ _ b1 hT1.out hX1.out).mono ?_; rintro e w2 ⟨s1, c1, rfl, hA2, b2⟩))
  have b3 := Rg.chain (Rg.chain b1 b2) (Rg.al1 w2 (.cells #[.slice s1 2 c1, .int .i64 0, .int .i64 0, .string ⟨#[]⟩, .int .i64 0, .int .i64 3, .bool false, .bool false] 30))
  have hA3 := Rg.hid (hA2.out.below (Rg.al1 w2 (.cells #[.slice s1 2 c1, .int .i64 0, .int .i64 0, .string ⟨#[]⟩, .int .i64 0, .int .i64 3, .bool false, .bool false] 30)))
  have kV3 : Rg.Bk w2.heap.size [.slice s1 2 c1, .int .i64 0, .int .i64 0, .string ⟨#[]⟩, .int .i64 0, .int .i64 3, .bool false, .bool false] 30 (w2.alloc (.cells #[.slice s1 2 c1, .int .i64 0, .int .i64 0, .string ⟨#[]⟩, .int .i64 0, .int .i64 3, .bool false, .bool false] 30)) := Rg.Bk.new rfl
  have hVw : w.heap.size ≤ w2.heap.size := (Rg.chain b1 b2).size
  clear b1 b2 hA2 hT1 hX1 HP HB
  generalize World.alloc _ _ = w3 at *
  generalize w2.heap.size = V at *
  have z0 : w3.cell? ⟨V, 0, none⟩ = some (.slice s1 2 c1) := kV3.cell 0
  have z1 : w3.cell? ⟨V, 1, none⟩ = some (.int .i64 0) := kV3.cell 1
  have z2 : w3.cell? ⟨V, 2, none⟩ = some (.int .i64 0) := kV3.cell 2
  have z3 : w3.cell? ⟨V, 3, none⟩ = some (.string ⟨#[]⟩) := kV3.cell 3
  have z4 : w3.cell? ⟨V, 4, none⟩ = some (.int .i64 0) := kV3.cell 4
  have z5 : w3.cell? ⟨V, 5, none⟩ = some (.int .i64 3) := kV3.cell 5
  have z6 : w3.cell? ⟨V, 6, none⟩ = some (.bool false) := kV3.cell 6
  have z7 : w3.cell? ⟨V, 7, none⟩ = some (.bool false) := kV3.cell 7
  replace kV3 := Rg.hid kV3
  go_upto_region 6 with (go_at_call 7; refine (H1.out _ _ _ b3 hA3.out).mono ?_; rintro e w4 ⟨s2, c2, rfl, hA4, b4⟩; have kV4 := kV3.out.below b4 kV3.out.lt; have rf := kV4.thaw; have r0 := kV4.cell 0; have r1 := kV4.cell 1; have r2 := kV4.cell 2; have r3 := kV4.cell 3; have r4 := kV4.cell 4; have r5 := kV4.cell 5; have r6 := kV4.cell 6; have r7 := kV4.cell 7; simp only [List.getElem?_cons_zero, List.getElem?_cons_succ] at r0 r1 r2 r3 r4 r5 r6 r7)
  obtain ⟨kV5, o5⟩ := ret8 kV4 rfl (.slice s2 2 c2) (.int .i64 1) (.int .i64 0) (.string ⟨#[32]⟩) (.int .i64 0) (.int .i64 3) (.bool false) (.bool false)
  have hA5 := Rg.hid (hA4.out.only kV4 o5)
  have b5 := (Rg.chain b3 b4).trans (o5.bel hVw)
  clear z0 z1 z2 z3 z4 z5 z6 z7 r0 r1 r2 r3 r4 r5 r6 r7 rf kV4 o5 hA4 b4 b3 hA3 kV3 H1
  generalize World.setCell _ _ _ = w5 at *
  have z0 : w5.cell? ⟨V, 0, none⟩ = some (.slice s2 2 c2) := kV5.cell 0
  have z1 : w5.cell? ⟨V, 1, none⟩ = some (.int .i64 1) := kV5.cell 1
  have z2 : w5.cell? ⟨V, 2, none⟩ = some (.int .i64 0) := kV5.cell 2
  have z3 : w5.cell? ⟨V, 3, none⟩ = some (.string ⟨#[32]⟩) := kV5.cell 3
  have z4 : w5.cell? ⟨V, 4, none⟩ = some (.int .i64 0) := kV5.cell 4
  have z5 : w5.cell? ⟨V, 5, none⟩ = some (.int .i64 3) := kV5.cell 5
  have z6 : w5.cell? ⟨V, 6, none⟩ = some (.bool false) := kV5.cell 6
  have z7 : w5.cell? ⟨V, 7, none⟩ = some (.bool false) := kV5.cell 7
  replace kV5 := Rg.hid kV5
  go_upto_region 7 with (go_at_call 7; refine (H2.out _ _ _ b5 hA5.out).mono ?_; rintro e w6 ⟨s3, c3, rfl, hA6, b6⟩; have kV6 := kV5.out.below b6 kV5.out.lt; have rf := kV6.thaw; have r0 := kV6.cell 0; have r1 := kV6.cell 1; have r2 := kV6.cell 2; have r3 := kV6.cell 3; have r4 := kV6.cell 4; have r5 := kV6.cell 5; have r6 := kV6.cell 6; have r7 := kV6.cell 7; simp only [List.getElem?_cons_zero, List.getElem?_cons_succ] at r0 r1 r2 r3 r4 r5 r6 r7)
  obtain ⟨kV7, o7⟩ := ret8 kV6 rfl (.slice s3 2 c3) (.int .i64 2) (.int .i64 0) (.string ⟨#[32]⟩) (.int .i64 0) (.int .i64 3) (.bool true) (.bool false)
  have b7 := (Rg.chain b5 b6).trans (o7.bel hVw)
  clear z0 z1 z2 z3 z4 z5 z6 z7 r0 r1 r2 r3 r4 r5 r6 r7 rf kV6 o7 hA6 b6 b5 hA5 kV5 H2
  generalize World.setCell _ _ _ = w7 at *
  have z3 : w7.cell? ⟨V, 3, none⟩ = some (.string ⟨#[32]⟩) := kV7.cell 3
  have z6 : w7.cell? ⟨V, 6, none⟩ = some (.bool true) := kV7.cell 6
  clear kV7
  go_wp2
  go_ret
  exact ⟨rfl, b7⟩
end Go.Proofs.YtpggnhnpphbaeaaDoor
