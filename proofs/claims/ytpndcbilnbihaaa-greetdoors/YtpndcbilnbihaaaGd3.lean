/-
  Layer 9: the walk of GreetDoors.
-/
import Derived.Test.YtpndcbilnbihaaaGd2
import Derived.Test.YtpndcbilnbihaaaGreArg
namespace Go.Proofs.Ytpndcbilnbihaaa
open Go.RowKit

theorem long_two' (a b : ByteArray) (w : World) (L : Bool) (hL : ([a, b].any fun s => decide (3000 < s.size)) = L) :
    Calls Try.prog 7 #[.slice (some ⟨w.heap.size, 0, none⟩) 2 2] (w.alloc (.cells #[.string a, .string b] 9)) fun e w' => e = .returned (.bool L) ∧ Below w.heap.size w w' :=
  long_list [a, b] (.cells #[.string a, .string b] 9) w (by simp) (MapKept.heap_alloc w _).1 L hL
theorem small_all {l : List ByteArray} (h : (l.any fun s => decide (3000 < s.size)) = false) : ∀ s ∈ l, s.size ≤ 3000 := by
  intro s hs
  rw [List.any_eq_false] at h
  have := h s hs
  simpa using this
theorem neq_door (st wg : Int) (ty nm : ByteArray) (w : World) : (binOp .neq 35 (.agg #[.int .i64 st, .string ty, .string nm, .int .i64 wg]) (.agg #[.int .i64 st, .string ty, .string nm, .int .i64 wg])).run Try.prog w = .ok (.bool false) w := by simp [go_sem]
theorem eql_door (st wg : Int) (ty nm : ByteArray) (w : World) : (binOp .eql 35 (.agg #[.int .i64 st, .string ty, .string nm, .int .i64 wg]) (.agg #[.int .i64 st, .string ty, .string nm, .int .i64 wg])).run Try.prog w = .ok (.bool true) w := by simp [go_sem]
set_option maxRecDepth 100000 in
theorem refKnock_any (w : World) : Calls Try.prog 24 #[] w fun e w' => e = .returned (.tuple #[.agg #[.int .i64 0, .string ⟨#[]⟩, .string ⟨#[]⟩, .int .i64 0], .string ⟨#[108, 111, 103, 105, 110, 58, 32]⟩]) ∧ Below w.heap.size w w' := by
  go_enter Try.func24, Try.ntmps24
  go_wp2
  exact bodyPost_ret (v := .tuple #[.agg #[.int .i64 0, .string ⟨#[]⟩, .string ⟨#[]⟩, .int .i64 0], .string ⟨#[108, 111, 103, 105, 110, 58, 32]⟩]) (by simp [results, Try.results24, go_sem]) rfl ⟨rfl, Rg.al1 _ _⟩
/-- two doors that are one -/
structure DIn (w : World) (V0 V1 : Nat) (d : Gr.D) (W : World) : Prop where
  bel : Below w.heap.size w W
  one : Rg.Bk V0 [.int .i64 d.stage, .string d.typed, .string d.name, .int .i64 d.wrong] 35 W
  two : Rg.Bk V1 [.int .i64 d.stage, .string d.typed, .string d.name, .int .i64 d.wrong] 35 W
  good : Gr.Good d

set_option maxHeartbeats 4000000 in
set_option maxRecDepth 100000 in
theorem doors_walk (login pw : ByteArray) (a : Option Addr) (cap : Nat) (l : List ByteArray) (_hl : l.length ≤ maxLen) (w : World) (hr : GRow w a l) :
    Calls Try.prog 6 #[.string login, .string pw, .slice a l.length cap] w fun e w' => e = .returned (.bool true) ∧ Below w.heap.size w w' := by
  have HA : Hid (∀ W, Calls Try.prog 8 #[] W fun e w' => e = .returned (.bool true) ∧ Below W.heap.size W w') := awake_any
  have hrow := Rg.hid hr
  clear hr
  cases hb : ([login, pw].any fun s => decide (3000 < s.size)) with
  | true =>
    have HL1 : Hid (∀ w : World, Calls Try.prog 7 #[.slice (some ⟨w.heap.size, 0, none⟩) 2 2] (w.alloc (.cells #[.string login, .string pw] 9)) fun e w' => e = .returned (.bool true) ∧ Below w.heap.size w w') := fun w => long_two' login pw w true hb
    clear hb
    go_enter Try.func6, Try.ntmps6
    go_wp2_with (go_at_call 7; refine (HL1.out w).mono ?_; rintro e w1 ⟨rfl, b1⟩)
    go_wp2_with (go_at_call 8; refine (HA.out _).mono ?_; rintro e w2 ⟨rfl, b2⟩)
    go_ret
    exact ⟨rfl, b1.trans (b2.mono b1.size)⟩
  | false =>
    have HL1 : Hid (∀ w : World, Calls Try.prog 7 #[.slice (some ⟨w.heap.size, 0, none⟩) 2 2] (w.alloc (.cells #[.string login, .string pw] 9)) fun e w' => e = .returned (.bool false) ∧ Below w.heap.size w w') := fun w => long_two' login pw w false hb
    clear hb
    by_cases h60 : 60 < l.length
    · have d0 : decide ((60 : Int) < (l.length : Int)) = true := by simp; omega
      go_enter Try.func6, Try.ntmps6
      go_wp2_with (go_at_call 7; refine (HL1.out w).mono ?_; rintro e w1 ⟨rfl, b1⟩)
      go_wp2_with (go_at_call 8; refine (HA.out _).mono ?_; rintro e w2 ⟨rfl, b2⟩)
      go_ret
      exact ⟨rfl, b1.trans (b2.mono b1.size)⟩
    · have d0 : decide ((60 : Int) < (l.length : Int)) = false := by simp; omega
      have HL2 : Hid (∀ W, Below w.heap.size w W → Calls Try.prog 7 #[.slice a l.length cap] W fun e w' => e = .returned (.bool (l.any fun s => decide (3000 < s.size))) ∧ W = w') := fun W hW => long_row a cap l W (by omega) (hrow.out.below hW)
      cases hb : (l.any fun s => decide (3000 < s.size)) with
      | true =>
        rw [hb] at HL2
        clear hb
        go_enter Try.func6, Try.ntmps6
        go_wp2_with (go_at_call 7; refine (HL1.out w).mono ?_)
        rintro e w1 ⟨rfl, b1⟩
        go_wp2_with (go_at_call 7; refine (HL2.out _ b1).mono ?_; rintro e w' ⟨rfl, rfl⟩)
        go_wp2_with (go_at_call 8; refine (HA.out _).mono ?_; rintro e w2 ⟨rfl, b2⟩)
        go_ret
        exact ⟨rfl, b1.trans (b2.mono b1.size)⟩
      | false =>
        have hsm := Rg.hid (small_all hb)
        rw [hb] at HL2
        clear hb
        have HK : Hid (∀ W, Calls Try.prog 23 #[] W fun e w' => e = .returned (.tuple #[.agg #[.int .i64 0, .string ⟨#[]⟩, .string ⟨#[]⟩, .int .i64 0], .string ⟨#[108, 111, 103, 105, 110, 58, 32]⟩]) ∧ Below W.heap.size W w') := knock_any
        have HR : Hid (∀ W, Calls Try.prog 24 #[] W fun e w' => e = .returned (.tuple #[.agg #[.int .i64 0, .string ⟨#[]⟩, .string ⟨#[]⟩, .int .i64 0], .string ⟨#[108, 111, 103, 105, 110, 58, 32]⟩]) ∧ Below W.heap.size W w') := refKnock_any
        obtain ⟨N, hN⟩ : ∃ N, N = l.length := ⟨_, rfl⟩
        rw [← hN] at h60 d0 HL2 ⊢
        replace hN := Rg.hid hN
        go_enter Try.func6, Try.ntmps6
        go_wp2_with (go_at_call 7; refine (HL1.out w).mono ?_)
        rintro e w1 ⟨rfl, b1⟩
        go_wp2_with (go_at_call 7; refine (HL2.out _ b1).mono ?_; rintro e w' ⟨rfl, rfl⟩)
        go_upto_region 4 with (go_at_call 23; refine (HK.out _).mono ?_; rintro e w2 ⟨rfl, b2⟩)
        have q2 := b1.trans (b2.mono b1.size)
        have kV : Hid (Rg.Bk w2.heap.size [.int .i64 0, .string ⟨#[]⟩, .string ⟨#[]⟩, .int .i64 0] 35 (w2.alloc (.cells #[.int .i64 0, .string ⟨#[]⟩, .string ⟨#[]⟩, .int .i64 0] 35))) := Rg.Bk.new rfl
        have q3 := Rg.hid (q2.alloc q2.size (.cells #[.int .i64 0, .string ⟨#[]⟩, .string ⟨#[]⟩, .int .i64 0] 35))
        have hV0 : w.heap.size ≤ w2.heap.size := q2.size
        clear b1 b2 q2 HK HL1 HL2
        generalize World.alloc _ _ = w3 at *
        generalize w2.heap.size = V0 at *
        go_upto_region 5 with (go_at_call 24; refine (HR.out _).mono ?_; rintro e w4 ⟨rfl, b4⟩)
        have q4 := q3.out.trans (b4.mono q3.out.size)
        have hD : Hid (DIn w V0 w4.heap.size ⟨0, ⟨#[]⟩, ⟨#[]⟩, 0⟩ (w4.alloc (.cells #[.int .i64 0, .string ⟨#[]⟩, .string ⟨#[]⟩, .int .i64 0] 35))) := ⟨q4.alloc q4.size _, (kV.out.below b4 kV.out.lt).old _, Rg.Bk.new rfl, Gr.good_zero⟩
        have hV1 : w.heap.size ≤ w4.heap.size := q4.size
        have hV01 : V0 ≠ w4.heap.size := Nat.ne_of_lt (kV.out.below b4 kV.out.lt).lt
        clear b4 q3 q4 kV HR
        generalize World.alloc _ _ = w5 at *
        generalize w4.heap.size = V1 at *
        go_wp2
        go_loopw [8, 10, 43] (fun av bv iv W => ∃ (i : Nat) (d : Gr.D) (x : ByteArray), i ≤ N ∧ iv = .int .i64 i ∧ av = .string x ∧ bv = .string x ∧ Hid (DIn w V0 V1 d W)) (fun _ _ iv _ => N - (intOf iv).toNat)
        case atStart => exact ⟨0, _, _, Nat.zero_le _, rfl, rfl, rfl, hD⟩
        case round =>
          clear hD
          obtain ⟨i, ⟨st, ty, nm, wg⟩, x, hi, rfl, rfl, rfl, hD⟩ := hrel
          have z0 : wr.cell? ⟨V0, 0, none⟩ = some (.int .i64 st) := hD.out.one.cell 0
          have z1 : wr.cell? ⟨V0, 1, none⟩ = some (.string ty) := hD.out.one.cell 1
          have z2 : wr.cell? ⟨V0, 2, none⟩ = some (.string nm) := hD.out.one.cell 2
          have z3 : wr.cell? ⟨V0, 3, none⟩ = some (.int .i64 wg) := hD.out.one.cell 3
          have y0 : wr.cell? ⟨V1, 0, none⟩ = some (.int .i64 st) := hD.out.two.cell 0
          have y1 : wr.cell? ⟨V1, 1, none⟩ = some (.string ty) := hD.out.two.cell 1
          have y2 : wr.cell? ⟨V1, 2, none⟩ = some (.string nm) := hD.out.two.cell 2
          have y3 : wr.cell? ⟨V1, 3, none⟩ = some (.int .i64 wg) := hD.out.two.cell 3
          have s0 : (x.toList == x.toList) = true := by simp
          have s1 : (x.toList != x.toList) = false := by simp
          have EN : ∀ W, (binOp .neq 35 (.agg #[.int .i64 st, .string ty, .string nm, .int .i64 wg]) (.agg #[.int .i64 st, .string ty, .string nm, .int .i64 wg])).run Try.prog W = .ok (.bool false) W := neq_door st wg ty nm
          have EQ : ∀ W, (binOp .eql 35 (.agg #[.int .i64 st, .string ty, .string nm, .int .i64 wg]) (.agg #[.int .i64 st, .string ty, .string nm, .int .i64 wg])).run Try.prog W = .ok (.bool true) W := eql_door st wg ty nm
          by_cases hlt : i < N
          · have hil : i < l.length := by rw [← hN.out]; exact hlt
            obtain ⟨bb, oo, rfl, _, hcell⟩ := (hrow.out.below hD.out.bel).at hil
            have hsz : l[i].size ≤ 3000 := hsm.out _ (List.getElem_mem hil)
            have hz0 : (0 : Int) ≤ (i : Int) := by omega
            have hz1 : (i : Int) < (N : Int) := by omega
            generalize l[i] = u at *
            have hg2 := Gr.good_type login pw u.data.toList ⟨st, ty, nm, wg⟩ hD.out.good
            have HT : Hid (∀ W, Calls Try.prog 25 #[.agg #[.int .i64 st, .string ty, .string nm, .int .i64 wg], .string login, .string pw, .string u] W fun e w' => TPost W (Gr.typeL login pw u.data.toList ⟨st, ty, nm, wg⟩) e w') := fun W => type_any ⟨st, ty, nm, wg⟩ login pw u W hD.out.good (by omega)
            have HU : Hid (∀ W, Calls Try.prog 26 #[.agg #[.int .i64 st, .string ty, .string nm, .int .i64 wg], .string login, .string pw, .string u] W fun e w' => TPost W (Gr.typeL login pw u.data.toList ⟨st, ty, nm, wg⟩) e w') := fun W => refType_any ⟨st, ty, nm, wg⟩ login pw u W hD.out.good (by omega)
            generalize Gr.typeL login pw u.data.toList ⟨st, ty, nm, wg⟩ = R at *
            obtain ⟨⟨st2, ty2, nm2, wg2⟩, o2, u2⟩ := R
            unfold TPost dv at HT HU
            dsimp only at HT HU hg2
            replace hg2 := Rg.hid hg2
            generalize (⟨o2.toArray⟩ : ByteArray) = ob at *
            generalize (⟨u2.toArray⟩ : ByteArray) = ub at *
            clear EQ hsz
            go_upto_region 11 with (go_at_call 25; refine (HT.out _).mono ?_; rintro e w6 ⟨rfl, b6⟩)
            have D6 : DIn w V0 V1 ⟨st, ty, nm, wg⟩ (w6.alloc (.cells #[.int .i64 st2, .string ty2, .string nm2, .int .i64 wg2] 35)) := by
              have q6 := hD.out.bel.trans (b6.mono hD.out.bel.size)
              exact ⟨q6.alloc q6.size _, (hD.out.one.below b6 hD.out.one.lt).old _, (hD.out.two.below b6 hD.out.two.lt).old _, hD.out.good⟩
            have kX : Hid (Rg.Bk w6.heap.size [.int .i64 st2, .string ty2, .string nm2, .int .i64 wg2] 35 (w6.alloc (.cells #[.int .i64 st2, .string ty2, .string nm2, .int .i64 wg2] 35))) := Rg.Bk.new rfl
            replace D6 := Rg.hid D6
            clear hD z0 z1 z2 z3 y0 y1 y2 y3 b6 HT EN s0 s1 hcell
            generalize World.alloc _ _ = w7 at *
            generalize w6.heap.size = X at *
            have y0 : w7.cell? ⟨V1, 0, none⟩ = some (.int .i64 st) := D6.out.two.cell 0
            have y1 : w7.cell? ⟨V1, 1, none⟩ = some (.string ty) := D6.out.two.cell 1
            have y2 : w7.cell? ⟨V1, 2, none⟩ = some (.string nm) := D6.out.two.cell 2
            have y3 : w7.cell? ⟨V1, 3, none⟩ = some (.int .i64 wg) := D6.out.two.cell 3
            go_upto_region 12 with (go_at_call 26; refine (HU.out _).mono ?_; rintro e w8 ⟨rfl, b8⟩)
            have D8 : DIn w V0 V1 ⟨st, ty, nm, wg⟩ (w8.alloc (.cells #[.int .i64 st2, .string ty2, .string nm2, .int .i64 wg2] 35)) := by
              have q8 := D6.out.bel.trans (b8.mono D6.out.bel.size)
              exact ⟨q8.alloc q8.size _, (D6.out.one.below b8 D6.out.one.lt).old _, (D6.out.two.below b8 D6.out.two.lt).old _, D6.out.good⟩
            have kX8 := Rg.hid ((kX.out.below b8 kX.out.lt).old (.cells #[.int .i64 st2, .string ty2, .string nm2, .int .i64 wg2] 35))
            have kY : Hid (Rg.Bk w8.heap.size [.int .i64 st2, .string ty2, .string nm2, .int .i64 wg2] 35 (w8.alloc (.cells #[.int .i64 st2, .string ty2, .string nm2, .int .i64 wg2] 35))) := Rg.Bk.new rfl
            have hXw : w.heap.size ≤ w8.heap.size := (D6.out.bel.trans (b8.mono D6.out.bel.size)).size
            have hYV : V0 ≠ w8.heap.size := Nat.ne_of_lt (D6.out.one.below b8 D6.out.one.lt).lt
            replace D8 := Rg.hid D8
            clear D6 kX y0 y1 y2 y3 b8 HU
            generalize World.alloc _ _ = w9 at *
            generalize w8.heap.size = Y at *
            have t0 : (ub.toList != ub.toList) = false := by simp
            have x0 : w9.cell? ⟨X, 0, none⟩ = some (.int .i64 st2) := kX8.out.cell 0
            have x1 : w9.cell? ⟨X, 1, none⟩ = some (.string ty2) := kX8.out.cell 1
            have x2 : w9.cell? ⟨X, 2, none⟩ = some (.string nm2) := kX8.out.cell 2
            have x3 : w9.cell? ⟨X, 3, none⟩ = some (.int .i64 wg2) := kX8.out.cell 3
            have kO := D8.out.one
            have of_ := kO.thaw
            have o0 := kO.cell 0
            have o1 := kO.cell 1
            have o2 := kO.cell 2
            have o3 := kO.cell 3
            go_upto_region 15 with fail
            obtain ⟨kF, oF⟩ := ret4 kO rfl (.int .i64 st2) (.string ty2) (.string nm2) (.int .i64 wg2)
            have kT2 := Rg.hid (D8.out.two.same (oF.block V1 (Ne.symm hV01)))
            have kY2 := Rg.hid (kY.out.same (oF.block Y (Ne.symm hYV)))
            have q10 := Rg.hid (D8.out.bel.trans (oF.bel hV0))
            replace kF := Rg.hid kF
            clear x0 x1 x2 x3 kX8 kO of_ o0 o1 o2 o3 D8 kY oF t0
            generalize World.setCell _ _ _ = w10 at *
            have x0 : w10.cell? ⟨Y, 0, none⟩ = some (.int .i64 st2) := kY2.out.cell 0
            have x1 : w10.cell? ⟨Y, 1, none⟩ = some (.string ty2) := kY2.out.cell 1
            have x2 : w10.cell? ⟨Y, 2, none⟩ = some (.string nm2) := kY2.out.cell 2
            have x3 : w10.cell? ⟨Y, 3, none⟩ = some (.int .i64 wg2) := kY2.out.cell 3
            have kP := kT2.out
            have pf := kP.thaw
            have p0 := kP.cell 0
            have p1 := kP.cell 1
            have p2 := kP.cell 2
            have p3 := kP.cell 3
            go_upto_region 16 with fail
            obtain ⟨kG, oG⟩ := ret4 kP rfl (.int .i64 st2) (.string ty2) (.string nm2) (.int .i64 wg2)
            have hDn := Rg.hid (⟨q10.out.trans (oG.bel hV1), kF.out.same (oG.block V0 hV01), kG, hg2.out⟩ : DIn w V0 V1 ⟨st2, ty2, nm2, wg2⟩ _)
            clear x0 x1 x2 x3 kY2 kT2 kP pf p0 p1 p2 p3 kG oG kF q10
            generalize World.setCell _ _ _ = w11 at *
            go_wp2
            go_roundw
            case rel => exact ⟨i + 1, _, _, by omega, by go_num, rfl, rfl, hDn⟩
            case measure => simp [intOf]; omega
          · have hbl := hD.out.bel
            clear EN
            go_wp2_with (go_at_call 8; refine (HA.out _).mono ?_; rintro e w6 ⟨rfl, b6⟩)
            go_ret
            exact ⟨rfl, hbl.trans (b6.mono hbl.size)⟩
end Go.Proofs.Ytpndcbilnbihaaa
