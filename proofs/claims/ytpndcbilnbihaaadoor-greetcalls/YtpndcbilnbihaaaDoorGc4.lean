/-
  Layer 9: the walk of GreetCalls.
-/
import Derived.Test.YtpndcbilnbihaaaDoorGc3
namespace Go.Proofs.YtpndcbilnbihaaaDoor
open Go.RowKit

theorem long_boxed (y s : ByteArray) (n : Int) (w : World) (L : Bool) (hL : ([y, s].any fun s => decide (3000 < s.size)) = L) :
    Calls Tryd.prog 5 #[.slice (some ⟨w.heap.size + 1, 0, none⟩) 2 2] ((w.alloc (.cells #[.string y, .int .i64 n] 23)).alloc (.cells #[.string y, .string s] 9)) fun e w' => e = .returned (.bool L) ∧ Below (w.alloc (.cells #[.string y, .int .i64 n] 23)).heap.size (w.alloc (.cells #[.string y, .int .i64 n] 23)) w' := by
  have h := long_list [y, s] (.cells #[.string y, .string s] 9) (w.alloc (.cells #[.string y, .int .i64 n] 23)) (by simp) (MapKept.heap_alloc _ _).1 L hL
  have e : (w.alloc (.cells #[.string y, .int .i64 n] 23)).heap.size = w.heap.size + 1 := by simp
  rw [e] at h ⊢
  exact h
theorem eql_call (a : ByteArray) (m : Int) (w : World) : (binOp .eql 23 (.agg #[.string a, .int .i64 m]) (.agg #[.string a, .int .i64 m])).run Tryd.prog w = .ok (.bool true) w := by simp [go_sem]
theorem small_two {l : List ByteArray} (h : (l.any fun s => decide (3000 < s.size)) = false) : ∀ s ∈ l, s.size ≤ 3000 := by
  intro s hs
  rw [List.any_eq_false] at h
  have := h s hs
  simpa using this

set_option maxHeartbeats 2000000 in
set_option maxRecDepth 100000 in
theorem calls_walk (y : ByteArray) (hy : y.size ≤ maxLen) (n : Int) (n0 : -9223372036854775808 ≤ n) (n1 : n ≤ 9223372036854775807) (s : ByteArray) (_hs : s.size ≤ maxLen) (w : World) (htab : Lib.TabIs Tryd.prog w "internal/strconv.uint64pow10" .u64 Lib.pow10Tab) (hm : MxIn w) :
    Calls Tryd.prog 3 #[.agg #[.string y, .int .i64 n], .string s] w fun e w' => e = .returned (.bool true) ∧ Below w.heap.size w w' := by
  have HA : Hid (∀ W, Calls Tryd.prog 6 #[] W fun e w' => e = .returned (.bool true) ∧ Below W.heap.size W w') := awake_any
  have b0 := Rg.al1 w (.cells #[.string y, .int .i64 n] 23)
  have kB : Hid (Rg.Bk w.heap.size [.string y, .int .i64 n] 23 (w.alloc (.cells #[.string y, .int .i64 n] 23))) := Rg.Bk.new rfl
  cases hb : ([y, s].any fun s => decide (3000 < s.size)) with
  | true =>
    have HL1 := Rg.hid (long_boxed y s n w true hb)
    clear hb htab hm kB
    go_enter Tryd.func3, Tryd.ntmps3
    go_wp2_with (go_at_call 5; refine HL1.out.mono ?_; rintro e w1 ⟨rfl, b1⟩)
    go_wp2_with (go_at_call 6; refine (HA.out _).mono ?_; rintro e w2 ⟨rfl, b2⟩)
    go_ret
    have B1 := b0.trans (b1.mono b0.size)
    exact ⟨rfl, B1.trans (b2.mono B1.size)⟩
  | false =>
    have hsm := small_two hb
    have ss := hsm s (by simp)
    have HL1 := Rg.hid (long_boxed y s n w false hb)
    have H1 : Hid (∀ W, Below w.heap.size w W → Calls Tryd.prog 7 #[.agg #[.string y, .int .i64 n]] W fun e w' => e = .returned (.tuple #[.string (Gr.callT y n).1, .int .i64 (Gr.callT y n).2]) ∧ Below W.heap.size W w') := fun W hW => callText_any y n hy n0 n1 W (tab_below htab hW)
    have H2 : Hid (∀ W, Calls Tryd.prog 8 #[.agg #[.string y, .int .i64 n]] W fun e w' => e = .returned (.tuple #[.string (Gr.callT y n).1, .int .i64 (Gr.callT y n).2]) ∧ Below W.heap.size W w') := fun W => refCallText_any y n hy n0 n1 W
    have H3 : Hid (∀ W, Below w.heap.size w W → Calls Tryd.prog 9 #[.string s] W fun e w' => e = .returned (.tuple #[.agg #[.string ⟨(Gr.pcl s.data.toList).1.toArray⟩, .int .i64 (Gr.pcl s.data.toList).2.1], .int .i64 (Gr.pcl s.data.toList).2.2]) ∧ Below W.heap.size W w') := fun W hW => pcall_any s W (by omega) (hm.below hW)
    have H4 : Hid (∀ W, Calls Tryd.prog 10 #[.string s] W fun e w' => e = .returned (.tuple #[.agg #[.string ⟨(Gr.pcl s.data.toList).1.toArray⟩, .int .i64 (Gr.pcl s.data.toList).2.1], .int .i64 (Gr.pcl s.data.toList).2.2]) ∧ Below W.heap.size W w') := fun W => refPcall_any s W (by omega)
    generalize (Gr.callT y n).1 = x1 at *
    generalize (Gr.callT y n).2 = x2 at *
    generalize (⟨(Gr.pcl s.data.toList).1.toArray⟩ : ByteArray) = pa at *
    generalize ((Gr.pcl s.data.toList).2.1 : Int) = pm at *
    generalize ((Gr.pcl s.data.toList).2.2 : Int) = pe at *
    clear hb hsm ss htab hm
    go_enter Tryd.func3, Tryd.ntmps3
    go_upto_region 3 with (go_at_call 5; refine HL1.out.mono ?_; rintro e w1 ⟨rfl, b1⟩)
    have q1 := Rg.hid (b0.trans (b1.mono b0.size))
    have k1 := Rg.hid (kB.out.below b1 kB.out.lt)
    clear HL1 b0 b1 kB
    have x0 : w1.cell? ⟨w.heap.size, 0, none⟩ = some (.string y) := k1.out.cell 0
    have x1' : w1.cell? ⟨w.heap.size, 1, none⟩ = some (.int .i64 n) := k1.out.cell 1
    go_upto_region 4 with (go_at_call 7; refine (H1.out _ q1.out).mono ?_; rintro e w2 ⟨rfl, b2⟩)
    have q2 := Rg.hid (q1.out.trans (b2.mono q1.out.size))
    have k2 := Rg.hid (k1.out.below b2 k1.out.lt)
    clear b2 q1 k1 x0 x1' H1
    have x0 : w2.cell? ⟨w.heap.size, 0, none⟩ = some (.string y) := k2.out.cell 0
    have x1' : w2.cell? ⟨w.heap.size, 1, none⟩ = some (.int .i64 n) := k2.out.cell 1
    go_upto_region 5 with (go_at_call 8; refine (H2.out _).mono ?_; rintro e w3 ⟨rfl, b3⟩)
    have q3 := Rg.hid (q2.out.trans (b3.mono q2.out.size))
    clear b3 q2 k2 x0 x1' H2
    go_upto_region 6 with (go_at_call 9; refine (H3.out _ q3.out).mono ?_; rintro e w4 ⟨rfl, b4⟩)
    have q4 := q3.out.trans (b4.mono q3.out.size)
    have k4 : Hid (Rg.Bk w4.heap.size [.string pa, .int .i64 pm] 23 (w4.alloc (.cells #[.string pa, .int .i64 pm] 23))) := Rg.Bk.new rfl
    have q5 := Rg.hid (q4.alloc q4.size (.cells #[.string pa, .int .i64 pm] 23))
    clear b4 q3 q4 H3
    generalize World.alloc _ _ = w5 at *
    generalize w4.heap.size = V1 at *
    go_upto_region 7 with (go_at_call 10; refine (H4.out _).mono ?_; rintro e w6 ⟨rfl, b6⟩)
    have q6 := q5.out.trans (b6.mono q5.out.size)
    have k6 : Hid (Rg.Bk w6.heap.size [.string pa, .int .i64 pm] 23 (w6.alloc (.cells #[.string pa, .int .i64 pm] 23))) := Rg.Bk.new rfl
    have q7 := Rg.hid (q6.alloc q6.size (.cells #[.string pa, .int .i64 pm] 23))
    replace k4 := Rg.hid ((k4.out.below b6 k4.out.lt).old (.cells #[.string pa, .int .i64 pm] 23))
    clear b6 q5 q6 H4
    generalize World.alloc _ _ = w7 at *
    generalize w6.heap.size = V2 at *
    have x0 : w7.cell? ⟨V1, 0, none⟩ = some (.string pa) := k4.out.cell 0
    have x1' : w7.cell? ⟨V1, 1, none⟩ = some (.int .i64 pm) := k4.out.cell 1
    have y0 : w7.cell? ⟨V2, 0, none⟩ = some (.string pa) := k6.out.cell 0
    have y1 : w7.cell? ⟨V2, 1, none⟩ = some (.int .i64 pm) := k6.out.cell 1
    have EQ : ∀ W, (binOp .eql 23 (.agg #[.string pa, .int .i64 pm]) (.agg #[.string pa, .int .i64 pm])).run Tryd.prog W = .ok (.bool true) W := eql_call pa pm
    go_wp2_with (go_at_call 6; refine (HA.out _).mono ?_; rintro e w8 ⟨rfl, b8⟩)
    go_ret
    exact ⟨rfl, q7.out.trans (b8.mono q7.out.size)⟩
end Go.Proofs.YtpndcbilnbihaaaDoor
