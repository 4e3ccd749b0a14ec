/-
  Layer 9: Knock, and the statements' own example.
-/
import Derived.Test.YtpndcbilnbihaabDoorGr8
import Derived.Test.YtpndcbilnbihaabDoorGr5
namespace Go.Proofs.YtpndcbilnbihaabDoor
open Go.RowKit

set_option maxRecDepth 100000 in
theorem knock_any (w : World) : Calls Tryd.prog 13 #[] w fun e w' => e = .returned (.tuple #[.agg #[.int .i64 0, .string ⟨#[]⟩, .string ⟨#[]⟩, .int .i64 0], .string ⟨#[108, 111, 103, 105, 110, 58, 32]⟩]) ∧ Below w.heap.size w w' := by
  go_enter Tryd.func13, Tryd.ntmps13
  go_wp2
  exact bodyPost_ret (v := .tuple #[.agg #[.int .i64 0, .string ⟨#[]⟩, .string ⟨#[]⟩, .int .i64 0], .string ⟨#[108, 111, 103, 105, 110, 58, 32]⟩]) (by simp [results, Tryd.results13, go_sem]) rfl ⟨rfl, Rg.al1 _ _⟩

namespace Gr
theorem awk_wrap : wrapOf ⟨#[82, 79, 75]⟩ = (⟨#[16, 82, 79, 75, 0]⟩, 0) := by decide +kernel
theorem awk_scan : scan (⟨#[120]⟩ ++ ⟨#[16, 82, 79, 75, 0]⟩ ++ ⟨#[121]⟩) = (⟨#[82, 79, 75]⟩, ⟨#[121]⟩, true) := by decide +kernel
theorem awk_type : (typeL ⟨#[97, 110, 110]⟩ ⟨#[120]⟩ [97, 110, 110, 13, 120, 13, 122, 122] ⟨0, ⟨#[]⟩, ⟨#[]⟩, 0⟩).2 = ([80, 97, 115, 115, 119, 111, 114, 100, 58, 32], [122, 122]) := by decide +kernel
theorem awk_in : (typeL ⟨#[97, 110, 110]⟩ ⟨#[120]⟩ [97, 110, 110, 13, 120, 13, 122, 122] ⟨0, ⟨#[]⟩, ⟨#[]⟩, 0⟩).1.stage = 2 := by decide +kernel
theorem awk_choose : choose [103, 105, 101] [101, 105, 103] = 101 := by decide +kernel
end Gr

set_option maxHeartbeats 2000000 in
set_option maxRecDepth 100000 in
theorem awake_any (w : World) : Calls Tryd.prog 5 #[] w fun e w' => e = .returned (.bool true) ∧ Below w.heap.size w w' := by
  have HW : Hid (∀ W, Calls Tryd.prog 6 #[.string ⟨#[82, 79, 75]⟩] W fun e w' => e = .returned (.tuple #[.string ⟨#[16, 82, 79, 75, 0]⟩, .int .i64 0]) ∧ W = w') := fun W => by
    have := wrap_any ⟨#[82, 79, 75]⟩ W (by decide)
    rw [Gr.awk_wrap] at this
    exact this.mono fun e w' h => ⟨h.1, h.2.symm⟩
  have HS : Hid (∀ W, Calls Tryd.prog 7 #[.string (⟨#[120]⟩ ++ ⟨#[16, 82, 79, 75, 0]⟩ ++ ⟨#[121]⟩)] W fun e w' => e = .returned (.tuple #[.string ⟨#[82, 79, 75]⟩, .string ⟨#[121]⟩, .bool true]) ∧ Below W.heap.size W w') := fun W => by
    have := scan_any (⟨#[120]⟩ ++ ⟨#[16, 82, 79, 75, 0]⟩ ++ ⟨#[121]⟩) W (by decide +kernel)
    rw [Gr.awk_scan] at this
    exact this
  have HK : Hid (∀ W, Calls Tryd.prog 13 #[] W fun e w' => e = .returned (.tuple #[.agg #[.int .i64 0, .string ⟨#[]⟩, .string ⟨#[]⟩, .int .i64 0], .string ⟨#[108, 111, 103, 105, 110, 58, 32]⟩]) ∧ Below W.heap.size W w') := knock_any
  obtain ⟨ty, nm, wr, HT⟩ : ∃ ty nm wr, Hid (∀ W, Calls Tryd.prog 14 #[.agg #[.int .i64 0, .string ⟨#[]⟩, .string ⟨#[]⟩, .int .i64 0], .string ⟨#[97, 110, 110]⟩, .string ⟨#[120]⟩, .string ⟨#[97, 110, 110, 13, 120, 13, 122, 122]⟩] W fun e w' => e = .returned (.tuple #[.agg #[.int .i64 2, .string ty, .string nm, .int .i64 wr], .string ⟨#[80, 97, 115, 115, 119, 111, 114, 100, 58, 32]⟩, .string ⟨#[122, 122]⟩]) ∧ Below W.heap.size W w') := by
    refine ⟨(Gr.typeL ⟨#[97, 110, 110]⟩ ⟨#[120]⟩ [97, 110, 110, 13, 120, 13, 122, 122] ⟨0, ⟨#[]⟩, ⟨#[]⟩, 0⟩).1.typed, (Gr.typeL ⟨#[97, 110, 110]⟩ ⟨#[120]⟩ [97, 110, 110, 13, 120, 13, 122, 122] ⟨0, ⟨#[]⟩, ⟨#[]⟩, 0⟩).1.name, (Gr.typeL ⟨#[97, 110, 110]⟩ ⟨#[120]⟩ [97, 110, 110, 13, 120, 13, 122, 122] ⟨0, ⟨#[]⟩, ⟨#[]⟩, 0⟩).1.wrong, fun W => ?_⟩
    have := type_any ⟨0, ⟨#[]⟩, ⟨#[]⟩, 0⟩ ⟨#[97, 110, 110]⟩ ⟨#[120]⟩ ⟨#[97, 110, 110, 13, 120, 13, 122, 122]⟩ W Gr.good_zero (by decide)
    refine this.mono fun e w' h => ⟨?_, h.2⟩
    rw [h.1]
    have e2 := Gr.awk_type
    have e1 := Gr.awk_in
    show Ending.returned (.tuple #[dv (Gr.typeL ⟨#[97, 110, 110]⟩ ⟨#[120]⟩ [97, 110, 110, 13, 120, 13, 122, 122] ⟨0, ⟨#[]⟩, ⟨#[]⟩, 0⟩).1, .string ⟨(Gr.typeL ⟨#[97, 110, 110]⟩ ⟨#[120]⟩ [97, 110, 110, 13, 120, 13, 122, 122] ⟨0, ⟨#[]⟩, ⟨#[]⟩, 0⟩).2.1.toArray⟩, .string ⟨(Gr.typeL ⟨#[97, 110, 110]⟩ ⟨#[120]⟩ [97, 110, 110, 13, 120, 13, 122, 122] ⟨0, ⟨#[]⟩, ⟨#[]⟩, 0⟩).2.2.toArray⟩]) = _
    rw [e2]
    unfold dv
    rw [e1]
  have HC : Hid (∀ W, Calls Tryd.prog 12 #[.string ⟨#[103, 105, 101]⟩, .string ⟨#[101, 105, 103]⟩] W fun e w' => e = .returned (.int .i64 101) ∧ Below W.heap.size W w') := fun W => by
    have := choose_any ⟨#[103, 105, 101]⟩ ⟨#[101, 105, 103]⟩ W
    rw [show Gr.choose (⟨#[103, 105, 101]⟩ : ByteArray).data.toList (⟨#[101, 105, 103]⟩ : ByteArray).data.toList = 101 from Gr.awk_choose] at this
    exact this
  have hz : ((⟨#[16, 82, 79, 75, 0]⟩ : ByteArray).size) = 5 := rfl
  generalize hwv : (⟨#[16, 82, 79, 75, 0]⟩ : ByteArray) = wv at *
  clear hwv
  go_enter Tryd.func5, Tryd.ntmps5
  go_wp2_with (first
    | (go_at_call 6; refine (HW.out _).mono ?_; rintro e w' ⟨rfl, rfl⟩)
    | (go_at_call 7; refine (HS.out _).mono ?_; rintro e w1 ⟨rfl, b1⟩))
  have q1 := Rg.hid b1
  clear b1
  go_upto_region 4 with (go_at_call 13; refine (HK.out _).mono ?_; rintro e w2 ⟨rfl, b2⟩)
  have kV : Hid (Rg.Bk w2.heap.size [.int .i64 0, .string ⟨#[]⟩, .string ⟨#[]⟩, .int .i64 0] 38 (w2.alloc (.cells #[.int .i64 0, .string ⟨#[]⟩, .string ⟨#[]⟩, .int .i64 0] 38))) := Rg.Bk.new rfl
  have q2 := q1.out.trans (b2.mono q1.out.size)
  have q3 := Rg.hid (q2.alloc q2.size (.cells #[.int .i64 0, .string ⟨#[]⟩, .string ⟨#[]⟩, .int .i64 0] 38))
  have hVw : w.heap.size ≤ w2.heap.size := q2.size
  clear b2 q1 q2
  generalize World.alloc _ _ = w3 at *
  generalize w2.heap.size = V at *
  have z0 : w3.cell? ⟨V, 0, none⟩ = some (.int .i64 0) := kV.out.cell 0
  have z1 : w3.cell? ⟨V, 1, none⟩ = some (.string ⟨#[]⟩) := kV.out.cell 1
  have z2 : w3.cell? ⟨V, 2, none⟩ = some (.string ⟨#[]⟩) := kV.out.cell 2
  have z3 : w3.cell? ⟨V, 3, none⟩ = some (.int .i64 0) := kV.out.cell 3
  go_upto_region 5 with (go_at_call 14; refine (HT.out _).mono ?_; rintro e w4 ⟨rfl, b4⟩; have kV4 := kV.out.below b4 kV.out.lt; have yf := kV4.thaw; have y0 := kV4.cell 0; have y1 := kV4.cell 1; have y2 := kV4.cell 2; have y3 := kV4.cell 3)
  obtain ⟨kE, oE⟩ := ret4 kV4 rfl (.int .i64 2) (.string ty) (.string nm) (.int .i64 wr)
  have q4 := q3.out.trans (b4.mono q3.out.size)
  have q5 := Rg.hid (q4.trans (oE.bel hVw))
  clear z0 z1 z2 z3 yf y0 y1 y2 y3 kV4 kV b4 q3 q4 oE HT
  generalize World.setCell _ _ _ = w5 at *
  have y0 : w5.cell? ⟨V, 0, none⟩ = some (.int .i64 2) := kE.cell 0
  clear kE
  go_wp2_with (go_at_call 12; refine (HC.out _).mono ?_; rintro e w6 ⟨rfl, b6⟩)
  go_ret
  exact ⟨rfl, q5.out.trans (b6.mono q5.out.size)⟩
end Go.Proofs.YtpndcbilnbihaabDoor
