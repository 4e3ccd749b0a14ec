/-
  Layer 9: the walk of GreetPieces.
-/
import Derived.Test.YtpndcbilnbihaabGs1
namespace Go.Proofs.Ytpndcbilnbihaab
open Go.RowKit

theorem long_three' (a b c : ByteArray) (w : World) (L : Bool) (hL : ([a, b, c].any fun s => decide (3000 < s.size)) = L) :
    Calls Try.prog 5 #[.slice (some ⟨w.heap.size, 0, none⟩) 3 3] (w.alloc (.cells #[.string a, .string b, .string c] 9)) fun e w' => e = .returned (.bool L) ∧ Below w.heap.size w w' :=
  long_list [a, b, c] (.cells #[.string a, .string b, .string c] 9) w (by simp) (MapKept.heap_alloc w _).1 L hL
theorem small_ins {l : List ByteArray} (h : (l.any fun s => decide (3000 < s.size)) = false) : ∀ s ∈ l, s.size ≤ 3000 := by
  intro s hs
  rw [List.any_eq_false] at h
  have := h s hs
  simpa using this
namespace Gr
theorem type_out (login pw : ByteArray) : ∀ (l : List UInt8) (d : D), (typeL login pw l d).2.1.length ≤ 24 * l.length ∧ (typeL login pw l d).2.2.length ≤ l.length
  | [], d => by simp [type_nil]
  | c :: r, d => by
    by_cases h2 : d.stage = 2
    · rw [type_in h2]; simp
    · by_cases hs : d.stage = 0 ∨ d.stage = 1
      · by_cases hc : c = 13 ∨ c = 10
        · rw [type_line hs hc]
          have ih := type_out login pw r (line login pw d).1
          have h3 : (line login pw d).2.data.toList.length ≤ 24 := by rw [Array.length_toList]; exact line_small login pw d
          simp only [List.length_append, List.length_cons]
          omega
        · rw [type_put hs hc]
          have ih := type_out login pw r (put c d)
          simp only [List.length_cons]
          omega
      · rw [type_shut h2 hs]; simp
end Gr
theorem ba_cat (a b : List UInt8) : (⟨a.toArray⟩ : ByteArray) ++ ⟨b.toArray⟩ = ⟨(a ++ b).toArray⟩ := by
  apply ByteArray.ext; rw [ByteArray.data_append]; apply Array.toList_inj.1; simp
theorem eql_same (st wg : Int) (ty nm : ByteArray) (w : World) : (binOp .eql 26 (.agg #[.int .i64 st, .string ty, .string nm, .int .i64 wg]) (.agg #[.int .i64 st, .string ty, .string nm, .int .i64 wg])).run Try.prog w = .ok (.bool true) w := by simp [go_sem]

set_option maxHeartbeats 4000000 in
set_option maxRecDepth 100000 in
theorem pieces_walk (s : ByteArray) (_hs : s.size ≤ maxLen) (t : ByteArray) (_ht : t.size ≤ maxLen) (pw : ByteArray) (_hp : pw.size ≤ maxLen) (w : World) :
    Calls Try.prog 4 #[.string s, .string t, .string pw] w fun e w' => e = .returned (.bool true) ∧ Below w.heap.size w w' := by
  have HA : Hid (∀ W, Calls Try.prog 6 #[] W fun e w' => e = .returned (.bool true) ∧ Below W.heap.size W w') := awake_any
  cases hb : ([s, t, pw].any fun s => decide (3000 < s.size)) with
  | true =>
    have HL1 : Hid (∀ w : World, Calls Try.prog 5 #[.slice (some ⟨w.heap.size, 0, none⟩) 3 3] (w.alloc (.cells #[.string s, .string t, .string pw] 9)) fun e w' => e = .returned (.bool true) ∧ Below w.heap.size w w') := fun w => long_three' s t pw w true hb
    clear hb
    go_enter Try.func4, Try.ntmps4
    go_wp2_with (go_at_call 5; refine (HL1.out w).mono ?_; rintro e w1 ⟨rfl, b1⟩)
    go_wp2_with (go_at_call 6; refine (HA.out _).mono ?_; rintro e w2 ⟨rfl, b2⟩)
    go_ret
    exact ⟨rfl, b1.trans (b2.mono b1.size)⟩
  | false =>
    have hsm := small_ins hb
    have ss := hsm s (by simp)
    have st := hsm t (by simp)
    have HL1 : Hid (∀ w : World, Calls Try.prog 5 #[.slice (some ⟨w.heap.size, 0, none⟩) 3 3] (w.alloc (.cells #[.string s, .string t, .string pw] 9)) fun e w' => e = .returned (.bool false) ∧ Below w.heap.size w w') := fun w => long_three' s t pw w false hb
    have HK : Hid (∀ W, Calls Try.prog 7 #[] W fun e w' => e = .returned (.tuple #[.agg #[.int .i64 0, .string ⟨#[]⟩, .string ⟨#[]⟩, .int .i64 0], .string ⟨#[108, 111, 103, 105, 110, 58, 32]⟩]) ∧ Below W.heap.size W w') := knock_any
    have happ := Gr.type_app ⟨#[97, 110, 110]⟩ pw s.data.toList t.data.toList ⟨0, ⟨#[]⟩, ⟨#[]⟩, 0⟩
    have hg2 := Gr.good_type ⟨#[97, 110, 110]⟩ pw s.data.toList ⟨0, ⟨#[]⟩, ⟨#[]⟩, 0⟩ Gr.good_zero
    have ho2 := Gr.type_out ⟨#[97, 110, 110]⟩ pw s.data.toList ⟨0, ⟨#[]⟩, ⟨#[]⟩, 0⟩
    have hcat : (s ++ t).data.toList = s.data.toList ++ t.data.toList := by rw [ByteArray.data_append, Array.toList_append]
    have HT1 : Hid (∀ W, Calls Try.prog 8 #[.agg #[.int .i64 0, .string ⟨#[]⟩, .string ⟨#[]⟩, .int .i64 0], .string ⟨#[97, 110, 110]⟩, .string pw, .string (s ++ t)] W fun e w' => TPost W (Gr.typeL ⟨#[97, 110, 110]⟩ pw (s ++ t).data.toList ⟨0, ⟨#[]⟩, ⟨#[]⟩, 0⟩) e w') := fun W => type_any ⟨0, ⟨#[]⟩, ⟨#[]⟩, 0⟩ ⟨#[97, 110, 110]⟩ pw (s ++ t) W Gr.good_zero (by rw [ByteArray.size_append]; omega)
    have HT2 : Hid (∀ W, Calls Try.prog 8 #[.agg #[.int .i64 0, .string ⟨#[]⟩, .string ⟨#[]⟩, .int .i64 0], .string ⟨#[97, 110, 110]⟩, .string pw, .string s] W fun e w' => TPost W (Gr.typeL ⟨#[97, 110, 110]⟩ pw s.data.toList ⟨0, ⟨#[]⟩, ⟨#[]⟩, 0⟩) e w') := fun W => type_any ⟨0, ⟨#[]⟩, ⟨#[]⟩, 0⟩ ⟨#[97, 110, 110]⟩ pw s W Gr.good_zero (by omega)
    rw [hcat, happ] at HT1
    clear hcat happ
    generalize Gr.typeL ⟨#[97, 110, 110]⟩ pw s.data.toList ⟨0, ⟨#[]⟩, ⟨#[]⟩, 0⟩ = R2 at *
    obtain ⟨⟨st2, ty2, nm2, wg2⟩, o2, u2⟩ := R2
    dsimp only at HT1 HT2 hg2 ho2
    have ho3 := Gr.type_out ⟨#[97, 110, 110]⟩ pw t.data.toList ⟨st2, ty2, nm2, wg2⟩
    have HT3 : Hid (∀ W, Calls Try.prog 8 #[.agg #[.int .i64 st2, .string ty2, .string nm2, .int .i64 wg2], .string ⟨#[97, 110, 110]⟩, .string pw, .string t] W fun e w' => TPost W (Gr.typeL ⟨#[97, 110, 110]⟩ pw t.data.toList ⟨st2, ty2, nm2, wg2⟩) e w') := fun W => type_any ⟨st2, ty2, nm2, wg2⟩ ⟨#[97, 110, 110]⟩ pw t W hg2 (by omega)
    generalize Gr.typeL ⟨#[97, 110, 110]⟩ pw t.data.toList ⟨st2, ty2, nm2, wg2⟩ = R3 at *
    obtain ⟨⟨st3, ty3, nm3, wg3⟩, o3, u3⟩ := R3
    unfold TPost dv at HT1 HT2 HT3
    dsimp only at HT1 HT2 HT3 ho3
    rw [← ba_cat, ← ba_cat] at HT1
    have hzs : s.data.toList.length = s.size := by rw [Array.length_toList]; rfl
    have hzt : t.data.toList.length = t.size := by rw [Array.length_toList]; rfl
    have z1 : (⟨o2.toArray⟩ : ByteArray).size ≤ 72000 := by show o2.toArray.size ≤ _; rw [List.size_toArray]; omega
    have z2 : (⟨u2.toArray⟩ : ByteArray).size ≤ 3000 := by show u2.toArray.size ≤ _; rw [List.size_toArray]; omega
    have z3 : (⟨o3.toArray⟩ : ByteArray).size ≤ 72000 := by show o3.toArray.size ≤ _; rw [List.size_toArray]; omega
    have z4 : (⟨u3.toArray⟩ : ByteArray).size ≤ 3000 := by show u3.toArray.size ≤ _; rw [List.size_toArray]; omega
    clear ho2 ho3 hzs hzt hg2 hb hsm
    generalize (⟨o2.toArray⟩ : ByteArray) = p2 at *
    generalize (⟨u2.toArray⟩ : ByteArray) = v2 at *
    generalize (⟨o3.toArray⟩ : ByteArray) = p3 at *
    generalize (⟨u3.toArray⟩ : ByteArray) = v3 at *
    have hsz : (s ++ t).size ≤ 6000 := by rw [ByteArray.size_append]; omega
    go_enter Try.func4, Try.ntmps4
    go_wp2_with (go_at_call 5; refine (HL1.out w).mono ?_; rintro e w1 ⟨rfl, b1⟩)
    go_upto_region 4 with (go_at_call 7; refine (HK.out _).mono ?_; rintro e w2 ⟨rfl, b2⟩)
    have q2 := b1.trans (b2.mono b1.size)
    have k0 : Hid (Rg.Bk w2.heap.size [.int .i64 0, .string ⟨#[]⟩, .string ⟨#[]⟩, .int .i64 0] 26 (w2.alloc (.cells #[.int .i64 0, .string ⟨#[]⟩, .string ⟨#[]⟩, .int .i64 0] 26))) := Rg.Bk.new rfl
    have q3 := Rg.hid (q2.alloc q2.size (.cells #[.int .i64 0, .string ⟨#[]⟩, .string ⟨#[]⟩, .int .i64 0] 26))
    clear b1 b2 q2 HK HL1
    generalize World.alloc _ _ = w3 at *
    generalize w2.heap.size = V0 at *
    have x0 : w3.cell? ⟨V0, 0, none⟩ = some (.int .i64 0) := k0.out.cell 0
    have x1 : w3.cell? ⟨V0, 1, none⟩ = some (.string ⟨#[]⟩) := k0.out.cell 1
    have x2 : w3.cell? ⟨V0, 2, none⟩ = some (.string ⟨#[]⟩) := k0.out.cell 2
    have x3 : w3.cell? ⟨V0, 3, none⟩ = some (.int .i64 0) := k0.out.cell 3
    go_upto_region 5 with (go_at_call 8; refine (HT1.out _).mono ?_; rintro e w4 ⟨rfl, b4⟩)
    have q4 := q3.out.trans (b4.mono q3.out.size)
    have k1 : Hid (Rg.Bk w4.heap.size [.int .i64 st3, .string ty3, .string nm3, .int .i64 wg3] 26 (w4.alloc (.cells #[.int .i64 st3, .string ty3, .string nm3, .int .i64 wg3] 26))) := Rg.Bk.new rfl
    have q5 := Rg.hid (q4.alloc q4.size (.cells #[.int .i64 st3, .string ty3, .string nm3, .int .i64 wg3] 26))
    replace k0 := Rg.hid ((k0.out.below b4 k0.out.lt).old (.cells #[.int .i64 st3, .string ty3, .string nm3, .int .i64 wg3] 26))
    clear b4 q3 q4 HT1 x0 x1 x2 x3
    generalize World.alloc _ _ = w5 at *
    generalize w4.heap.size = V1 at *
    have x0 : w5.cell? ⟨V0, 0, none⟩ = some (.int .i64 0) := k0.out.cell 0
    have x1 : w5.cell? ⟨V0, 1, none⟩ = some (.string ⟨#[]⟩) := k0.out.cell 1
    have x2 : w5.cell? ⟨V0, 2, none⟩ = some (.string ⟨#[]⟩) := k0.out.cell 2
    have x3 : w5.cell? ⟨V0, 3, none⟩ = some (.int .i64 0) := k0.out.cell 3
    go_upto_region 6 with (go_at_call 8; refine (HT2.out _).mono ?_; rintro e w6 ⟨rfl, b6⟩)
    have q6 := q5.out.trans (b6.mono q5.out.size)
    have k2 : Hid (Rg.Bk w6.heap.size [.int .i64 st2, .string ty2, .string nm2, .int .i64 wg2] 26 (w6.alloc (.cells #[.int .i64 st2, .string ty2, .string nm2, .int .i64 wg2] 26))) := Rg.Bk.new rfl
    have q7 := Rg.hid (q6.alloc q6.size (.cells #[.int .i64 st2, .string ty2, .string nm2, .int .i64 wg2] 26))
    replace k1 := Rg.hid ((k1.out.below b6 k1.out.lt).old (.cells #[.int .i64 st2, .string ty2, .string nm2, .int .i64 wg2] 26))
    clear b6 q5 q6 HT2 x0 x1 x2 x3 k0
    generalize World.alloc _ _ = w7 at *
    generalize w6.heap.size = V2 at *
    have x0 : w7.cell? ⟨V2, 0, none⟩ = some (.int .i64 st2) := k2.out.cell 0
    have x1 : w7.cell? ⟨V2, 1, none⟩ = some (.string ty2) := k2.out.cell 1
    have x2 : w7.cell? ⟨V2, 2, none⟩ = some (.string nm2) := k2.out.cell 2
    have x3 : w7.cell? ⟨V2, 3, none⟩ = some (.int .i64 wg2) := k2.out.cell 3
    go_upto_region 7 with (go_at_call 8; refine (HT3.out _).mono ?_; rintro e w8 ⟨rfl, b8⟩)
    have q8 := q7.out.trans (b8.mono q7.out.size)
    have k3 : Hid (Rg.Bk w8.heap.size [.int .i64 st3, .string ty3, .string nm3, .int .i64 wg3] 26 (w8.alloc (.cells #[.int .i64 st3, .string ty3, .string nm3, .int .i64 wg3] 26))) := Rg.Bk.new rfl
    have q9 := Rg.hid (q8.alloc q8.size (.cells #[.int .i64 st3, .string ty3, .string nm3, .int .i64 wg3] 26))
    replace k1 := Rg.hid ((k1.out.below b8 k1.out.lt).old (.cells #[.int .i64 st3, .string ty3, .string nm3, .int .i64 wg3] 26))
    clear b8 q7 q8 HT3 x0 x1 x2 x3 k2
    generalize World.alloc _ _ = w9 at *
    generalize w8.heap.size = V3 at *
    have x0 : w9.cell? ⟨V1, 0, none⟩ = some (.int .i64 st3) := k1.out.cell 0
    have x1 : w9.cell? ⟨V1, 1, none⟩ = some (.string ty3) := k1.out.cell 1
    have x2 : w9.cell? ⟨V1, 2, none⟩ = some (.string nm3) := k1.out.cell 2
    have x3 : w9.cell? ⟨V1, 3, none⟩ = some (.int .i64 wg3) := k1.out.cell 3
    have y0 : w9.cell? ⟨V3, 0, none⟩ = some (.int .i64 st3) := k3.out.cell 0
    have y1 : w9.cell? ⟨V3, 1, none⟩ = some (.string ty3) := k3.out.cell 1
    have y2 : w9.cell? ⟨V3, 2, none⟩ = some (.string nm3) := k3.out.cell 2
    have y3 : w9.cell? ⟨V3, 3, none⟩ = some (.int .i64 wg3) := k3.out.cell 3
    have EQ : ∀ W, (binOp .eql 26 (.agg #[.int .i64 st3, .string ty3, .string nm3, .int .i64 wg3]) (.agg #[.int .i64 st3, .string ty3, .string nm3, .int .i64 wg3])).run Try.prog W = .ok (.bool true) W := eql_same st3 wg3 ty3 nm3
    have e1 : ((p2 ++ p3).toList == (p2 ++ p3).toList) = true := by simp
    have e2 : ((v2 ++ v3).toList == (v2 ++ v3).toList) = true := by simp
    go_wp2_with (go_at_call 6; refine (HA.out _).mono ?_; rintro e w10 ⟨rfl, b10⟩)
    go_ret
    exact ⟨rfl, q9.out.trans (b10.mono q9.out.size)⟩
end Go.Proofs.Ytpndcbilnbihaab
