/-
  Layer 8: the document's Print.
-/
import Derived.Test.YteepfifglafjmaaDoorPrA
namespace Go.Proofs.YteepfifglafjmaaDoor
open Go.RowKit

theorem Ch.take_all' (l : List ByteArray) (i : Nat) (hi : i < l.length) (h1 : (l.take i).all Ch.saidT = true) (h2 : Ch.saidT l[i] = true) : (l.take (i + 1)).all Ch.saidT = true := by rw [Ch.all_take l i hi, h1, h2]; rfl
theorem Ch.take_over (l : List ByteArray) (i : Nat) (hi : ¬ i < l.length) : l.take (i + 1) = l.take i := by rw [List.take_of_length_le (by omega), List.take_of_length_le (by omega)]

/-- one step of the document's Print: its texts -/
def InPost (w : World) (O0 : List UInt8) (ws ns : List ByteArray) (O : ByteArray) (wr : World) (j : Nat) : Prop := O.data.toList = O0 ++ Ch.rw8 ws ns j ∧ (ws.take j).all Ch.saidT = true ∧ (ns.take j).all Ch.saidT = true ∧ Below w.heap.size w wr

set_option maxHeartbeats 16000000 in
set_option maxRecDepth 100000 in
theorem rprint_any (a : Option Addr) (c : Nat) (vs : List SV) (xs : List Ch.St) (w : World) (hN : Ch.Near xs) (hr : Row0 stepE w a vs) (hx : LSts w vs xs) :
    Calls Tryd.prog 9 #[.slice a xs.length c] w fun e w' => SePost w (Ch.print xs) e w' := by
  obtain ⟨N, hNn⟩ : ∃ N, N = xs.length := ⟨_, rfl⟩
  rw [← hNn]
  have hP : Ch.print xs = if 20 < N then ([], 5) else if Ch.chkAll xs ≠ 0 then ([], Ch.chkAll xs) else if 300 < (Ch.putAll xs).length then ([], 5) else (Ch.putAll xs, 0) := by rw [hNn]; rfl
  replace hNn := Rg.hid hNn
  replace hr := Rg.hid hr
  replace hx := Rg.hid hx
  replace hN := Rg.hid hN
  by_cases h20 : 20 < N
  · rw [if_pos h20] at hP
    have d1 : decide ((20 : Int) < (N : Int)) = true := by simp; omega
    replace hP := Rg.hid hP
    go_enter Tryd.func9, Tryd.ntmps9
    go_wp2
    go_ret2
    exact ⟨by rw [hP.out]; rfl, Below.refl _ _⟩
  rw [if_neg h20] at hP
  have d1 : decide ((20 : Int) < (N : Int)) = false := by simp; omega
  replace hP := Rg.hid hP
  have hN20 : N ≤ 20 := by omega
  have HR : Hid (∀ (i : Nat) (h : i < xs.length), ∃ b o, a = some ⟨b, o, none⟩ ∧ ∃ wa wn wc0 na nn nc, (∀ W, Below w.heap.size w W → W.cell? ⟨b, o + i * 3, none⟩ = some (.slice wa wn wc0) ∧ W.cell? ⟨b, o + i * 3 + 1, none⟩ = some (.slice na nn nc) ∧ W.cell? ⟨b, o + i * 3 + 2, none⟩ = some (.string xs[i].send)) ∧ Hid (wn = xs[i].wants.length ∧ nn = xs[i].nudge.length ∧ Row0 strE w wa xs[i].wants ∧ Row0 strE w na xs[i].nudge)) := fun i h => by
    have hiv : i < vs.length := by rw [hx.out.1]; exact h
    have hst := hx.out.2 i hiv h
    have hrow := hr.out.row hiv
    obtain ⟨b, o, rfl⟩ := row_place hrow hiv
    refine ⟨b, o, rfl, vs[i].a, vs[i].n, vs[i].c, vs[i].b, vs[i].m, vs[i].d, fun W hW => ?_, hst.n, hst.m, hst.wants, hst.nudge⟩
    obtain ⟨e0, e1, e2⟩ := irow_cells (hrow.below hW) hiv
    exact ⟨e0, e1, by rw [e2, hst.s]⟩
  clear hr hx h20
  go_enter Tryd.func9, Tryd.ntmps9
  go_upto_region 3 with fail
  clear d1
  go_wp2
  go_loopw [4, 20] (fun vo vi wr => ∃ (i : Nat) (O : ByteArray), i ≤ N ∧ vi = .int .i64 i ∧ vo = .string O ∧ Hid (O.data.toList = Ch.putAll (xs.take i)) ∧ Hid (Ch.chkAll (xs.take i) = 0) ∧ Hid (Below w.heap.size w wr) ∧ O.size ≤ i * 7520000) (fun _ vi _ => N - (intOf vi).toNat)
  case atStart => exact ⟨0, ⟨#[]⟩, Nat.zero_le _, rfl, rfl, rfl, rfl, Below.refl _ _, Nat.zero_le _⟩
  case round =>
    obtain ⟨i, O, hin, rfl, rfl, hO, hchk, hbw, hOl⟩ := hrel
    by_cases hlt : i < N
    · have hil : i < xs.length := by rw [← hNn.out]; exact hlt
      obtain ⟨b, o, rfl, wa, wn, wc0, na, nn, nc, hcs, hrows⟩ := HR.out i hil
      obtain ⟨e0, e1, e2⟩ := hcs wr hbw.out
      have hxm := List.getElem_mem hil
      have hz0 : (0 : Int) ≤ (i : Int) := by omega
      have hz1 : (i : Int) < (N : Int) := by omega
      have hnW := Rg.hid (hN.out.wants _ hxm).2
      have hnN := Rg.hid (hN.out.nudge _ hxm).2
      have hnS := hN.out.send _ hxm
      have hwl := (hN.out.wants _ hxm).1
      have hnl := (hN.out.nudge _ hxm).1
      have hstop : Hid (Ch.chkSt xs[i] ≠ 0 → Ch.chkAll xs = Ch.chkSt xs[i]) := fun h => by
        have e : xs = xs.take i ++ xs[i] :: xs.drop (i + 1) := by rw [← List.drop_eq_getElem_cons hil, List.take_append_drop]
        conv => lhs; rw [e]
        exact Ch.chkAll_stop _ _ _ hchk.out h
      have hsn : Hid (Ch.chkSt xs[i] = 0 → Ch.chkAll (xs.take (i + 1)) = 0) := fun h => by
        rw [List.take_succ_eq_append_getElem hil]
        exact Ch.chkAll_snoc _ _ hchk.out h
      have hpa : Hid (Ch.putAll (xs.take (i + 1)) = Ch.putAll (xs.take i) ++ Ch.putSt xs[i]) := by show _ = _; rw [List.take_succ_eq_append_getElem hil, Ch.putAll_snoc]
      have hP2 : Hid (∀ q : Nat, Ch.chkSt xs[i] = q → q ≠ 0 → Ch.print xs = ([], q)) := fun q hq h0 => by
        have h1 := hstop.out (by rw [hq]; exact h0)
        rw [hP.out, if_pos (by rw [h1, hq]; exact h0), h1, hq]
      obtain ⟨ws, hws⟩ : ∃ ws, xs[i].wants = ws := ⟨_, rfl⟩
      obtain ⟨ns, hns⟩ : ∃ ns, xs[i].nudge = ns := ⟨_, rfl⟩
      obtain ⟨sd, hsd⟩ : ∃ sd, xs[i].send = sd := ⟨_, rfl⟩
      have hxe : xs[i] = ⟨ws, ns, sd⟩ := by rw [← hws, ← hns, ← hsd]
      rw [hws] at hrows hnW hwl
      rw [hns] at hrows hnN hnl
      rw [hsd] at e2 hnS
      rw [hxe] at hsn hpa hP2
      clear hws hns hsd hxe hstop hcs hxm
      have hlen := Rg.hid (show wn = ws.length ∧ nn = ns.length from ⟨hrows.out.1, hrows.out.2.1⟩)
      have hwn6 : wn ≤ 6000 := by rw [hlen.out.1]; exact hwl
      have hnn6 : nn ≤ 6000 := by rw [hlen.out.2]; exact hnl
      have kD : Hid (Rg.Bk wr.heap.size [.slice wa wn wc0, .slice na nn nc, .string sd] 43 (wr.alloc (.cells #[.slice wa wn wc0, .slice na nn nc, .string sd] 43))) := Rg.Bk.new rfl
      have hbA := Rg.hid (Rg.chain hbw.out (Rg.al1 wr (.cells #[.slice wa wn wc0, .slice na nn nc, .string sd] 43)))
      go_upto_region 7 with fail
      clear e0 e1 e2 hz0 hz1
      generalize (wr.alloc (.cells #[.slice wa wn wc0, .slice na nn nc, .string sd] 43)) = w4 at *
      obtain ⟨D, hD⟩ : ∃ D, D = wr.heap.size := ⟨_, rfl⟩
      rw [← hD] at kD ⊢
      clear hD hbw
      have z0 : w4.cell? ⟨D, 0, none⟩ = some (.slice wa wn wc0) := kD.out.cell 0
      have z1 : w4.cell? ⟨D, 1, none⟩ = some (.slice na nn nc) := kD.out.cell 1
      have z2 : w4.cell? ⟨D, 2, none⟩ = some (.string sd) := kD.out.cell 2
      by_cases c1 : wn = 0
      · have d1 : ((wn : Int) == 0) = true := by rw [c1]; rfl
        have hPr := Rg.hid (hP2.out 1 (Ch.chkSt_arg (.inl (by show ws.length < 1; rw [← hlen.out.1]; omega))) (by decide))
        clear hP2 hsn hpa hP hrows
        replace c1 := Rg.hid c1
        go_wp2
        go_ret2
        exact ⟨by rw [hPr.out]; rfl, hbA.out⟩
      have d1 : ((wn : Int) == 0) = false := by rw [beq_eq_false_iff_ne]; omega
      obtain ⟨m, hm⟩ : ∃ m, wn = m + 1 := ⟨wn - 1, by omega⟩
      have y0 : IntKind.i64.wrap ((wn : Int) - 1) = (m : Int) := by rw [IntKind.wrap_i64]; omega
      have y1 : wrap64 ((wn : Int) - 1) = (m : Int) := by unfold wrap64; omega
      by_cases c2 : ¬ nn = m
      · have d3 : ((nn : Int) == (m : Int)) = false := by rw [beq_eq_false_iff_ne]; omega
        have d4 : ((nn : Int) != (m : Int)) = true := by rw [bne_iff_ne]; omega
        have d5 : ¬ (nn : Int) = (m : Int) := by omega
        have d6 : (nn == m) = false := by rw [beq_eq_false_iff_ne]; exact c2
        have d7 : (nn != m) = true := by rw [bne_iff_ne]; exact c2
        have hPr := Rg.hid (hP2.out 1 (Ch.chkSt_arg (.inr (.inr (by show ns.length + 1 ≠ ws.length; rw [← hlen.out.1, ← hlen.out.2]; omega)))) (by decide))
        clear hP2 hsn hpa hP hrows c1 hm
        go_wp2
        go_ret2
        exact ⟨by rw [hPr.out]; rfl, hbA.out⟩
      replace c2 : nn = m := Classical.not_not.1 c2
      have y2 : IntKind.i64.wrap ((wn : Int) - 1) = (nn : Int) := by rw [y0, c2]
      have y3 : wrap64 ((wn : Int) - 1) = (nn : Int) := by rw [y1, c2]
      have hone : Hid (ns.length + 1 = ws.length) := by show _ = _; rw [← hlen.out.1, ← hlen.out.2]; omega
      have hwnn : Hid (wn = nn + 1) := by show _ = _; omega
      have hw1 : Hid (1 ≤ ws.length) := by show _ ≤ _; rw [← hlen.out.1]; omega
      clear y0 y1 c1 c2 hm
      by_cases c3 : 300 < wn
      · have d3 : decide ((300 : Int) < (wn : Int)) = true := by simp; omega
        have hPr := Rg.hid (hP2.out 1 (Ch.chkSt_arg (.inr (.inl (by show 300 < ws.length; rw [← hlen.out.1]; exact c3)))) (by decide))
        clear hP2 hsn hpa hP hrows
        go_wp2
        go_ret2
        exact ⟨by rw [hPr.out]; rfl, hbA.out⟩
      have d3 : decide ((300 : Int) < (wn : Int)) = false := by simp; omega
      have hw3 : Hid (ws.length ≤ 300) := by show _ ≤ _; rw [← hlen.out.1]; omega
      have hform : Hid ((ws.all Ch.saidT && ns.all Ch.saidT && Ch.saidT sd) = false → Ch.print xs = ([], 3)) := fun h => hP2.out 3 (Ch.chkSt_form hw1.out hw3.out hone.out h) (by decide)
      have hfine : Hid ((ws.all Ch.saidT && ns.all Ch.saidT && Ch.saidT sd) = true → Ch.chkAll (xs.take (i + 1)) = 0) := fun h => hsn.out (Ch.chkSt_fine hw1.out hw3.out hone.out h)
      have hW0 := Rg.hid hrows.out.2.2.1
      have hN0 := Rg.hid hrows.out.2.2.2
      clear hP2 hsn hrows
      go_upto_region 9 with fail
      clear d1 d3 y2 y3
      go_wp2
      go_loopw [4, 47] (fun vo vi wr => ∃ (j : Nat) (O1 : ByteArray), j ≤ wn ∧ vi = .int .i64 j ∧ vo = .string O1 ∧ Hid (O1.data.toList = Ch.putAll (xs.take i) ++ Ch.rw8 ws ns j) ∧ Hid ((ws.take j).all Ch.saidT = true) ∧ Hid ((ns.take j).all Ch.saidT = true) ∧ Hid (Below w4.heap.size w4 wr)) (fun _ vi _ => wn - (intOf vi).toNat)
      case atStart => exact ⟨0, O, Nat.zero_le _, rfl, rfl, by show _ = _; rw [Ch.rw8_zero, List.append_nil]; exact hO.out, rfl, rfl, Below.refl _ _⟩
      case round =>
        obtain ⟨j, O1, hjn, rfl, rfl, hO1, hjw, hjm, hbq⟩ := hrel
        have hrl := Ch.rw8_len ws ns hnW.out hnN.out j
        have hO1s := ba_size O1 hO1.out
        have hO1b : O1.size ≤ 170000000 := by
          have h1 := ba_size O hO.out
          rw [hO1s, List.length_append]
          have h2 : wn ≤ 300 := by omega
          have h3 : j * 25000 ≤ 300 * 25000 := Nat.mul_le_mul_right _ (by omega)
          omega
        clear hrl hO1s
        have hbq0 := Rg.chain hbA.out hbq.out
        have kDq := kD.out.below hbq.out kD.out.lt
        by_cases hlt3 : j < wn
        · have hjl : j < ws.length := by rw [← hlen.out.1]; exact hlt3
          obtain ⟨gw, ow, rfl, hcw⟩ := str_cell0 hW0.out hjl
          have c1 := hcw wr hbq0
          have y0 : (0 : Int) ≤ (j : Int) := by omega
          have y1 : (j : Int) < (wn : Int) := by omega
          have hwsz := hnW.out _ (List.getElem_mem hjl)
          have HW0 := rwritten_any false ws[j] wr (by omega)
          cases hs1 : Ch.saidT ws[j]
          · rw [Ch.wr8_no hs1] at HW0
            have hbad := Rg.hid (hform.out (by rw [Ch.all_no ws j hjl hs1]; rfl))
            have HW : Hid (Calls Tryd.prog 22 #[.string ws[j], .bool false] wr fun e w' => e = .returned (.tuple #[.string ⟨#[]⟩, .bool false]) ∧ Hid (Below w.heap.size w w')) := HW0.mono fun e w' ⟨h1, h2⟩ => ⟨h1, Rg.chain hbq0 h2⟩
            generalize ws[j] = x at *
            clear HW0 hs1 hcw hform hfine hpa hO1 hjw hjm hwsz kDq
            go_wp2_with (go_at_call 22; refine HW.out.mono ?_; rintro e w6 ⟨rfl, b6⟩)
            go_ret2
            exact ⟨by rw [hbad.out]; rfl, b6.out⟩
          rw [Ch.wr8_yes hs1] at HW0
          simp only [Bool.false_eq_true, if_false] at HW0
          have hjw2 := Rg.hid (Ch.take_all' ws j hjl hjw.out hs1)
          have hrs : Hid (Ch.putAll (xs.take i) ++ Ch.rw8 ws ns (j + 1) = Ch.putAll (xs.take i) ++ Ch.rw8 ws ns j ++ ((if 0 < j then [45] else []) ++ (Ch.putT (ws[j]).data.toList ++ (if hn : j < ns.length then 45 :: Ch.putN (ns[j]).data.toList else [])))) := by show _ = _; rw [Ch.rw8_step ws ns j hone.out hjl, List.append_assoc]
          have hTl := Ch.putT_len ws[j].data.toList
          have hTl2 : ws[j].data.toList.length = ws[j].size := rfl
          obtain ⟨T, hT⟩ : ∃ T : ByteArray, (⟨(Ch.putT ws[j].data.toList).toArray⟩ : ByteArray) = T := ⟨_, rfl⟩
          have hTd : Hid (T.data.toList = Ch.putT ws[j].data.toList) := by show _ = _; rw [← hT]
          have hTs := ba_size T hTd.out
          rw [hT] at HW0
          clear hT
          have g1 : ¬ 9223372036854775807 < O1.size + 1 := by omega
          have g2 : ¬ 9223372036854775807 < O1.size + T.size := by omega
          have g3 : ¬ 9223372036854775807 < O1.size + 1 + T.size := by omega
          by_cases hjn3 : j < nn
          · have hjm3 : j < ns.length := by rw [← hlen.out.2]; exact hjn3
            obtain ⟨gn, on, rfl, hcn⟩ := str_cell0 hN0.out hjm3
            have hnsz := hnN.out _ (List.getElem_mem hjm3)
            have dn : decide ((j : Int) < (nn : Int)) = true := by simp; omega
            have y4 : (j : Int) < (nn : Int) := by omega
            have hUl := Ch.putN_len ns[j].data.toList
            have hUl2 : ns[j].data.toList.length = ns[j].size := rfl
            cases hs2 : Ch.saidT ns[j]
            · have hbad := Rg.hid (hform.out (by rw [Ch.all_no ns j hjm3 hs2, Bool.and_false]; rfl))
              have HW : Hid (Calls Tryd.prog 22 #[.string ws[j], .bool false] wr fun e w' => e = .returned (.tuple #[.string T, .bool true]) ∧ Hid (Below w.heap.size w w' ∧ Below w4.heap.size w4 w') ∧ w'.cell? ⟨D, 1, none⟩ = some (.slice (some ⟨gn, on, none⟩) nn nc) ∧ w'.cell? ⟨gn, on + j, none⟩ = some (.string ns[j]) ∧ Hid (Calls Tryd.prog 22 #[.string ns[j], .bool true] w' fun e w'' => e = .returned (.tuple #[.string ⟨#[]⟩, .bool false]) ∧ Hid (Below w.heap.size w w'')) ∧ True) := HW0.mono fun e w' ⟨h1, h2⟩ => ⟨h1, ⟨Rg.chain hbq0 h2, Rg.chain hbq.out h2⟩, (kDq.below h2 kDq.lt).cell 1, hcn w' (Rg.chain hbq0 h2), by
                have := rwritten_any true ns[j] w' (by omega)
                rw [Ch.wr8_no hs2] at this
                exact this.mono fun e w'' ⟨h3, h4⟩ => ⟨h3, Rg.chain (Rg.chain hbq0 h2) h4⟩, trivial⟩
              generalize ns[j] = y at *
              generalize ws[j] = x at *
              clear HW0 hs1 hs2 hcw hcn hform hfine hpa hjw hjm hwsz hnsz kDq hTl hTl2 hUl hUl2 hTs
              by_cases hj0 : ¬ 0 < j
              · have dj : decide ((0 : Int) < (j : Int)) = false := by simp; omega
                have dj2 : decide (0 < j) = false := by simp; omega
                clear hO1 hTd hrs 
                go_wp2_with (go_at_call 22; (first | (with_reducible refine HW.out.mono ?_; rintro e w6 ⟨rfl, b6, z60, z61, HNn, f6⟩) | (with_reducible refine HNn.out.mono ?_; rintro e w7 ⟨rfl, b7⟩)))
                go_ret2
                exact ⟨by rw [hbad.out]; rfl, b7.out⟩
              · have dj : decide ((0 : Int) < (j : Int)) = true := by simp; omega
                have dj2 : decide (0 < j) = true := by simp; omega
                clear hO1 hTd hrs 
                go_wp2_with (go_at_call 22; (first | (with_reducible refine HW.out.mono ?_; rintro e w6 ⟨rfl, b6, z60, z61, HNn, f6⟩) | (with_reducible refine HNn.out.mono ?_; rintro e w7 ⟨rfl, b7⟩)))
                go_ret2
                exact ⟨by rw [hbad.out]; rfl, b7.out⟩
            · have hjm2 := Rg.hid (Ch.take_all' ns j hjm3 hjm.out hs2)
              obtain ⟨U, hU⟩ : ∃ U : ByteArray, (⟨(Ch.putN ns[j].data.toList).toArray⟩ : ByteArray) = U := ⟨_, rfl⟩
              have hUd : Hid (U.data.toList = Ch.putN ns[j].data.toList) := by show _ = _; rw [← hU]
              have hUs := ba_size U hUd.out
              have g4 : ¬ 9223372036854775807 < 1 + U.size := by omega
              have g5 : ¬ 9223372036854775807 < O1.size + T.size + (1 + U.size) := by omega
              have g6 : ¬ 9223372036854775807 < O1.size + 1 + T.size + (1 + U.size) := by omega
              rw [dif_pos hjm3] at hrs
              have HW : Hid (Calls Tryd.prog 22 #[.string ws[j], .bool false] wr fun e w' => e = .returned (.tuple #[.string T, .bool true]) ∧ Hid (Below w.heap.size w w' ∧ Below w4.heap.size w4 w') ∧ w'.cell? ⟨D, 1, none⟩ = some (.slice (some ⟨gn, on, none⟩) nn nc) ∧ w'.cell? ⟨gn, on + j, none⟩ = some (.string ns[j]) ∧ Hid (Calls Tryd.prog 22 #[.string ns[j], .bool true] w' fun e w'' => e = .returned (.tuple #[.string U, .bool true]) ∧ Hid (Below w.heap.size w w'' ∧ Below w4.heap.size w4 w'')) ∧ True) := HW0.mono fun e w' ⟨h1, h2⟩ => ⟨h1, ⟨Rg.chain hbq0 h2, Rg.chain hbq.out h2⟩, (kDq.below h2 kDq.lt).cell 1, hcn w' (Rg.chain hbq0 h2), by
                have := rwritten_any true ns[j] w' (by omega)
                rw [Ch.wr8_yes hs2] at this
                simp only [if_true] at this
                rw [hU] at this
                exact this.mono fun e w'' ⟨h3, h4⟩ => ⟨h3, Rg.chain (Rg.chain hbq0 h2) h4, Rg.chain (Rg.chain hbq.out h2) h4⟩, trivial⟩
              clear hU
              generalize ns[j] = y at *
              generalize ws[j] = x at *
              clear HW0 hs1 hs2 hcw hcn hjw hjm hwsz hnsz kDq hTl hTl2 hUl hUl2 hTs hUs
              by_cases hj0 : ¬ 0 < j
              · have dj : decide ((0 : Int) < (j : Int)) = false := by simp; omega
                have dj2 : decide (0 < j) = false := by simp; omega
                have hfin : Hid (((O1 ++ T) ++ ((⟨#[45]⟩ : ByteArray) ++ U)).data.toList = Ch.putAll (xs.take i) ++ Ch.rw8 ws ns (j + 1)) := by
                  show _ = _
                  rw [hrs.out, if_neg (by omega)]
                  simp only [ByteArray.data_append, Array.toList_append, hO1.out, hTd.out, hUd.out]
                  simp
                clear hO1 hTd hrs hUd
                go_wp2_with (go_at_call 22; (first | (with_reducible refine HW.out.mono ?_; rintro e w6 ⟨rfl, b6, z60, z61, HNn, f6⟩) | (with_reducible refine HNn.out.mono ?_; rintro e w7 ⟨rfl, b7⟩)))
                go_roundw
                case rel => first | exact ⟨j + 1, ((O1 ++ T) ++ ((⟨#[45]⟩ : ByteArray) ++ U)), by omega, by go_num, rfl, hfin, hjw2, hjm2, b7.out.2⟩ | ((repeat apply Exists.intro); exact ⟨⟨j + 1, ((O1 ++ T) ++ ((⟨#[45]⟩ : ByteArray) ++ U)), by omega, by go_num, rfl, hfin, hjw2, hjm2, b7.out.2⟩, rfl⟩)
                case measure => simp [intOf]; omega
              · have dj : decide ((0 : Int) < (j : Int)) = true := by simp; omega
                have dj2 : decide (0 < j) = true := by simp; omega
                have hfin : Hid ((((O1 ++ (⟨#[45]⟩ : ByteArray)) ++ T) ++ ((⟨#[45]⟩ : ByteArray) ++ U)).data.toList = Ch.putAll (xs.take i) ++ Ch.rw8 ws ns (j + 1)) := by
                  show _ = _
                  rw [hrs.out, if_pos (by omega)]
                  simp only [ByteArray.data_append, Array.toList_append, hO1.out, hTd.out, hUd.out]
                  simp
                clear hO1 hTd hrs hUd
                go_wp2_with (go_at_call 22; (first | (with_reducible refine HW.out.mono ?_; rintro e w6 ⟨rfl, b6, z60, z61, HNn, f6⟩) | (with_reducible refine HNn.out.mono ?_; rintro e w7 ⟨rfl, b7⟩)))
                go_roundw
                case rel => first | exact ⟨j + 1, (((O1 ++ (⟨#[45]⟩ : ByteArray)) ++ T) ++ ((⟨#[45]⟩ : ByteArray) ++ U)), by omega, by go_num, rfl, hfin, hjw2, hjm2, b7.out.2⟩ | ((repeat apply Exists.intro); exact ⟨⟨j + 1, (((O1 ++ (⟨#[45]⟩ : ByteArray)) ++ T) ++ ((⟨#[45]⟩ : ByteArray) ++ U)), by omega, by go_num, rfl, hfin, hjw2, hjm2, b7.out.2⟩, rfl⟩)
                case measure => simp [intOf]; omega
          · have hjm3 : ¬ j < ns.length := by rw [← hlen.out.2]; exact hjn3
            have dn : decide ((j : Int) < (nn : Int)) = false := by simp; omega
            have hjm2 : Hid ((ns.take (j + 1)).all Ch.saidT = true) := by show _ = _; rw [Ch.take_over ns j hjm3]; exact hjm.out
            rw [dif_neg hjm3] at hrs
            have HW : Hid (Calls Tryd.prog 22 #[.string ws[j], .bool false] wr fun e w' => e = .returned (.tuple #[.string T, .bool true]) ∧ Hid (Below w.heap.size w w' ∧ Below w4.heap.size w4 w') ∧ w'.cell? ⟨D, 1, none⟩ = some (.slice na nn nc) ∧ True ∧ True ∧ True) := HW0.mono fun e w' ⟨h1, h2⟩ => ⟨h1, ⟨Rg.chain hbq0 h2, Rg.chain hbq.out h2⟩, (kDq.below h2 kDq.lt).cell 1, trivial, trivial, trivial⟩
            generalize ws[j] = x at *
            clear HW0 hs1 hcw hjw hjm hwsz kDq hTl hTl2 hTs
            by_cases hj0 : ¬ 0 < j
            · have dj : decide ((0 : Int) < (j : Int)) = false := by simp; omega
              have dj2 : decide (0 < j) = false := by simp; omega
              have hfin : Hid ((O1 ++ T).data.toList = Ch.putAll (xs.take i) ++ Ch.rw8 ws ns (j + 1)) := by
                show _ = _
                rw [hrs.out, if_neg (by omega)]
                simp only [ByteArray.data_append, Array.toList_append, hO1.out, hTd.out]
                simp
              clear hO1 hTd hrs 
              go_wp2_with (go_at_call 22; (first | (with_reducible refine HW.out.mono ?_; rintro e w6 ⟨rfl, b6, z60, z61, HNn, f6⟩)))
              go_roundw
              case rel => first | exact ⟨j + 1, (O1 ++ T), by omega, by go_num, rfl, hfin, hjw2, hjm2, b6.out.2⟩ | ((repeat apply Exists.intro); exact ⟨⟨j + 1, (O1 ++ T), by omega, by go_num, rfl, hfin, hjw2, hjm2, b6.out.2⟩, rfl⟩)
              case measure => simp [intOf]; omega
            · have dj : decide ((0 : Int) < (j : Int)) = true := by simp; omega
              have dj2 : decide (0 < j) = true := by simp; omega
              have hfin : Hid (((O1 ++ (⟨#[45]⟩ : ByteArray)) ++ T).data.toList = Ch.putAll (xs.take i) ++ Ch.rw8 ws ns (j + 1)) := by
                show _ = _
                rw [hrs.out, if_pos (by omega)]
                simp only [ByteArray.data_append, Array.toList_append, hO1.out, hTd.out]
                simp
              clear hO1 hTd hrs 
              go_wp2_with (go_at_call 22; (first | (with_reducible refine HW.out.mono ?_; rintro e w6 ⟨rfl, b6, z60, z61, HNn, f6⟩)))
              go_roundw
              case rel => first | exact ⟨j + 1, ((O1 ++ (⟨#[45]⟩ : ByteArray)) ++ T), by omega, by go_num, rfl, hfin, hjw2, hjm2, b6.out.2⟩ | ((repeat apply Exists.intro); exact ⟨⟨j + 1, ((O1 ++ (⟨#[45]⟩ : ByteArray)) ++ T), by omega, by go_num, rfl, hfin, hjw2, hjm2, b6.out.2⟩, rfl⟩)
              case measure => simp [intOf]; omega
        · have hjN : Hid (j = ws.length) := by show _ = _; rw [← hlen.out.1]; omega
          have e1 := hO1.out
          rw [hjN.out, Ch.rw8_end ws ns hone.out] at e1
          have e2 := hjw.out
          rw [List.take_of_length_le (by rw [hjN.out]; exact Nat.le_refl _)] at e2
          have e3 := hjm.out
          rw [List.take_of_length_le (by rw [hjN.out]; have := hone.out; omega)] at e3
          have z2 : wr.cell? ⟨D, 2, none⟩ = some (.string sd) := kDq.cell 2
          have HS0 := rwritten_any true sd wr (by omega)
          have hVl := Ch.putN_len sd.data.toList
          have hVl2 : sd.data.toList.length = sd.size := rfl
          have hge : ¬ (j : Int) < (wn : Int) := by omega
          cases hs3 : Ch.saidT sd
          · rw [Ch.wr8_no hs3] at HS0
            have hbad := Rg.hid (hform.out (by rw [hs3, Bool.and_false]))
            have HS : Hid (Calls Tryd.prog 22 #[.string sd, .bool true] wr fun e w' => e = .returned (.tuple #[.string ⟨#[]⟩, .bool false]) ∧ Hid (Below w.heap.size w w')) := HS0.mono fun e w' ⟨h1, h2⟩ => ⟨h1, Rg.chain hbq0 h2⟩
            clear HS0 hs3 hform hfine hpa hO1 hjw hjm kDq e1 e2 e3 hVl hVl2 hjN
            go_wp2_with (go_at_call 22; refine HS.out.mono ?_; rintro e w6 ⟨rfl, b6⟩)
            go_ret2
            exact ⟨by rw [hbad.out]; rfl, b6.out⟩
          · rw [Ch.wr8_yes hs3] at HS0
            simp only [if_true] at HS0
            obtain ⟨V, hV⟩ : ∃ V : ByteArray, (⟨(Ch.putN sd.data.toList).toArray⟩ : ByteArray) = V := ⟨_, rfl⟩
            have hVd : V.data.toList = Ch.putN sd.data.toList := by rw [← hV]
            have hVs := ba_size V hVd
            rw [hV] at HS0
            have HS : Hid (Calls Tryd.prog 22 #[.string sd, .bool true] wr fun e w' => e = .returned (.tuple #[.string V, .bool true]) ∧ Hid (Below w.heap.size w w')) := HS0.mono fun e w' ⟨h1, h2⟩ => ⟨h1, Rg.chain hbq0 h2⟩
            have hck := Rg.hid (hfine.out (by rw [e2, e3, hs3]; rfl))
            have hfin : Hid ((O1 ++ (((⟨#[32]⟩ : ByteArray) ++ V) ++ ⟨#[32]⟩)).data.toList = Ch.putAll (xs.take (i + 1))) := by
              show _ = _
              rw [hpa.out]
              unfold Ch.putSt
              simp only [ByteArray.data_append, Array.toList_append, e1, hVd]
              simp
            have hfs : (O1 ++ (((⟨#[32]⟩ : ByteArray) ++ V) ++ ⟨#[32]⟩)).size ≤ (i + 1) * 7520000 := by
              have h1 := Ch.putSt_len ⟨ws, ns, sd⟩ hw3.out hnW.out hnN.out hnS
              have h2 := ba_size _ hfin.out
              rw [hpa.out, List.length_append] at h2
              have h3 := ba_size O hO.out
              rw [h2, Nat.add_mul, Nat.one_mul]
              omega
            have g4 : ¬ 9223372036854775807 < 1 + V.size := by omega
            have g5 : ¬ 9223372036854775807 < 1 + V.size + 1 := by omega
            have g6 : ¬ 9223372036854775807 < O1.size + (1 + V.size + 1) := by omega
            clear HS0 hs3 hform hfine hpa hO1 hjw hjm kDq e1 e2 e3 hVl hVl2 hjN hV hVd hVs
            go_wp2_with (go_at_call 22; refine HS.out.mono ?_; rintro e w6 ⟨rfl, b6⟩)
            go_roundw
            case rel => first | exact ⟨i + 1, _, by omega, by go_num, rfl, hfin, hck, b6, hfs⟩ | ((repeat apply Exists.intro); exact ⟨⟨i + 1, _, by omega, by go_num, rfl, hfin, hck, b6, hfs⟩, rfl⟩)
            case measure => simp [intOf]; omega
    · have hO2 := hO.out
      have hc2 := hchk.out
      rw [List.take_of_length_le (by rw [← hNn.out]; omega)] at hO2 hc2
      have hP3 := hP.out
      rw [if_neg (by rw [hc2]; simp), ← hO2, show O.data.toList.length = O.size from rfl] at hP3
      have hge : ¬ (i : Int) < (N : Int) := by omega
      by_cases h3 : 300 < O.size
      · rw [if_pos h3] at hP3
        have d3 : decide ((300 : Int) < (O.size : Int)) = true := by simp; omega
        replace hP3 := Rg.hid hP3
        clear hO2 hc2
        go_wp2
        go_ret2
        exact ⟨by rw [hP3.out]; rfl, hbw.out⟩
      · rw [if_neg h3] at hP3
        have d3 : decide ((300 : Int) < (O.size : Int)) = false := by simp; omega
        replace hP3 := Rg.hid hP3
        clear hO2 hc2
        go_wp2
        go_ret2
        exact ⟨by rw [hP3.out]; rfl, hbw.out⟩
end Go.Proofs.YteepfifglafjmaaDoor
