/-
  Layer 6: DiskBegins.
-/
import Derived.Test.YtlefodpbdjiapaaDk23
namespace Go.Proofs.Ytlefodpbdjiapaa
open Go.RowKit

set_option maxHeartbeats 4000000 in
set_option maxRecDepth 100000 in
theorem begins_walk (a : Option Addr) (ca : Nat) (l : List Dsk.Cl) (a2 : Option Addr) (ca2 : Nat) (l2 : List Dsk.Cl) (n : Int) (hn : l.length ≤ 1000000000000000) (hfit : ∀ c ∈ l, CFits c) (hn2 : l2.length ≤ 1000000000000000) (hfit2 : ∀ c ∈ l2, CFits c) (w : World) (hrow : CRow0 w a l) (hrow2 : CRow0 w a2 l2) :
    Calls Try.prog 4 #[.slice a l.length ca, .slice a2 l2.length ca2, .int .i64 n] w fun e w' => VPost (.bool true) w e w' := by
  have HH : Hid (Calls Try.prog 8 #[.slice a l.length ca] w fun e w' => HeavyPost l w e w') := heavy_any a ca l w hn hrow
  have HH2 : Hid (∀ W, Below w.heap.size w W → Calls Try.prog 8 #[.slice a2 l2.length ca2] W fun e w' => HeavyPost l2 W e w') := fun W hW => heavy_any a2 ca2 l2 W hn2 (hrow2.below hW)
  have HA : Hid (∀ W, Below w.heap.size w W → Calls Try.prog 9 #[] W fun e w' => VPost (.bool true) w e w') := fun W hW => (awake_any W).mono fun e w' ⟨h1, h2⟩ => ⟨h1, Rg.chain hW h2⟩
  obtain ⟨N, hN⟩ : ∃ N, N = l.length := ⟨_, rfl⟩
  obtain ⟨M, hM⟩ : ∃ M, M = l2.length := ⟨_, rfl⟩
  rw [← hN] at HH hn ⊢
  rw [← hM] at HH2 hn2 ⊢
  replace hN := Rg.hid hN
  replace hM := Rg.hid hM
  replace hrow := Rg.hid hrow
  replace hfit := Rg.hid hfit
  replace hrow2 := Rg.hid hrow2
  replace hfit2 := Rg.hid hfit2
  go_enter Try.func4, Try.ntmps4
  go_wp2_with (go_at_call 8; refine HH.out.mono ?_)
  intro e w1 h1
  obtain ⟨B, rfl, hB, b1⟩ := h1
  cases B
  case true =>
    go_wp2_with (go_at_call 9; refine (HA.out _ b1).mono ?_)
    rintro e w2 ⟨rfl, b2⟩
    go_wp2
    go_ret
    exact ⟨rfl, b2⟩
  case false =>
    have hL := hB rfl
    have hlen : N ≤ 150 := by rw [hN.out]; exact hL.len
    have hdat := Rg.hid hL.data
    clear hB hL HH
    go_wp2_with (go_at_call 8; refine (HH2.out _ b1).mono ?_)
    intro e w2 h2
    obtain ⟨B, rfl, hB, b2⟩ := h2
    replace b2 := Rg.chain b1 b2
    clear b1
    cases B
    case true =>
      go_wp2_with (go_at_call 9; refine (HA.out _ b2).mono ?_)
      rintro e w2 ⟨rfl, b2⟩
      go_wp2
      go_ret
      exact ⟨rfl, b2⟩
    case false =>
      have hL := hB rfl
      have hlen2 : M ≤ 150 := by rw [hM.out]; exact hL.len
      have hdat2 := Rg.hid hL.data
      have HNw : Hid (∀ W, Calls Try.prog 11 #[.int .i64 30000] W fun e w' => VPost (.agg #[.slice none 0 0, .slice none 0 0, .int .i64 30000, .int .i64 (-1), .bool false]) W e w') := fun W => (new_any 30000 W).mono fun e w' ⟨h1, h2⟩ => ⟨h1, h2⟩
      have hD0 : Hid (∀ W, DAt W (.agg #[.slice none 0 0, .slice none 0 0, .int .i64 30000, .int .i64 (-1), .bool false]) (Dsk.new 30000)) := fun W => ⟨none, 0, none, 0, rfl, .inl ⟨rfl, rfl⟩, .inl ⟨rfl, rfl⟩, Nat.le_refl _, Nat.le_refl _⟩
      have hfu := Rg.hid (Dsk.Ever.new 30000)
      have hw00 : Hid (Dsk.Wt (Dsk.new 30000) ≤ 0 * 70016) := Nat.le_refl _
      generalize Dsk.new 30000 = d0 at *
      clear hB hL HH2
      go_wp2_with (go_at_call 11; refine (HNw.out _).mono ?_)
      rintro e w3 ⟨rfl, b3⟩
      have hV := Rg.hid (DVar.new (hD0.out w3))
      have hbw3 := Rg.chain (Rg.chain b2 b3) (Rg.al1 w3 (.cells #[.slice none 0 0, .slice none 0 0, .int .i64 30000, .int .i64 (-1), .bool false] 28))
      have hVw : w.heap.size ≤ w3.heap.size := (Rg.chain b2 b3).size
      clear HNw hD0 b2 b3
      go_wp2
      generalize w3.alloc _ = W3 at *
      generalize w3.heap.size = V at *
      go_loopw [27] (fun vi wr => ∃ (i : Nat) (d : Dsk.Dk), i ≤ N ∧ vi = .int .i64 i ∧ Hid (Dsk.Ever d) ∧ Hid (Dsk.Wt d ≤ i * 70016) ∧ Hid (DVar V wr d) ∧ Below w.heap.size w wr) (fun vi _ => N - (intOf vi).toNat)
      case atStart => exact ⟨0, d0, Nat.zero_le _, rfl, hfu, hw00, hV, hbw3⟩
      case round =>
        obtain ⟨i, d, hin, rfl, hkp, hwt, hvar, hbw⟩ := hrel
        by_cases hlt : i < N
        · clear hrow2 hfit2 hdat2
          have hil : i < l.length := by rw [← hN.out]; exact hlt
          obtain ⟨b, o, rfl, hb, hat⟩ : ∃ b o, a = some ⟨b, o, none⟩ ∧ b < w.heap.size ∧ Rg.At w b o (callE.flat l) := by
            rcases hrow.out with h | h
            · rw [h] at hil; simp at hil
            · exact h
          have at1 : Rg.At wr b (o + i * 5) (callE.enc l[i]) := (hat.elem hil).below hbw hb
          have hcf : CFits l[i] := hfit.out _ (List.getElem_mem hil)
          have hcd : l[i].x.size ≤ 70000 := hdat.out _ (List.getElem_mem hil)
          generalize l[i] = c at *
          have hw1 := Rg.hid (show Dsk.Wt d + c.x.size + 16 ≤ 10000000000 by have := hwt.out; omega)
          have HP := Rg.hid (fun W v h => play_var c hcf d hkp.out.ok hw1.out W v h)
          have hnx : Hid (c.k ≤ 5 → Dsk.Ever (Dsk.play d c).1) := fun h1 => hkp.out.play c hw1.out hcf.m h1
          have hwx := Rg.hid (show Dsk.Wt (Dsk.play d c).1 ≤ (i + 1) * 70016 by have := (Dsk.play_ok hkp.out.ok c hw1.out hcf.m).2; have := hwt.out; omega)
          have hwx0 : Hid (Dsk.Wt d ≤ (i + 1) * 70016) := Nat.le_trans hwt.out (Nat.mul_le_mul_right _ (Nat.le_succ i))
          generalize Dsk.play d c = r at *
          obtain ⟨ck, cn, ct, cx, cm⟩ := c
          obtain ⟨c0, c1, c2, c3, c4⟩ := call_at at1
          dsimp only at HP hnx
          have hz0 : (0 : Int) ≤ (i : Int) := by omega
          have hz1 : (i : Int) < (N : Int) := by omega
          have bn := hbw.alloc hbw.size (.cells #[.int .i64 ck, .string cn, .string ct, .string cx, .int .i64 cm] 35)
          have hvn := Rg.hid (hvar.out.below (Rg.al1 wr (.cells #[.int .i64 ck, .string cn, .string ct, .string cx, .int .i64 cm] 35)))
          clear at1 hat hil hrow hcf hcd hw1 hwt
          by_cases hk5 : ck < 5
          · have e3 : decide (ck < (5 : Int)) = true := by simp [hk5]
            have hf1 := Rg.hid (hnx.out (by omega))
            obtain ⟨sa', sn', sc', oa', on', oc', cp', fs', dn', kV, hDv⟩ := hvar.out
            have v0 := kV.cell 0
            have v1 := kV.cell 1
            have v2 := kV.cell 2
            have v3 := kV.cell 3
            have v4 := kV.cell 4
            simp only [List.getElem?_cons_zero, List.getElem?_cons_succ] at v0 v1 v2 v3 v4
            have hVlt := kV.lt
            have HP2 := Rg.hid (HP.out (wr.alloc (.cells #[.int .i64 ck, .string cn, .string ct, .string cx, .int .i64 cm] 35)) _ (hDv.below (Rg.al1 _ _)))
            clear hnx HP hvar hDv kV
            go_wp2_with (go_at_call 13; refine HP2.out.mono ?_)
            rintro e w6 ⟨sa6, sn6, sc6, oa6, on6, oc6, cp6, fs6, dn6, rfl, hD6, b6⟩
            have hv6 := hvn.out.below b6
            have hbw6 := Rg.chain bn b6
            obtain ⟨hv7, oE⟩ := hv6.store hD6
            obtain ⟨q1, q2, q3, q4, q5, q6, q7, q8, q9, kV, _⟩ := hv6
            have hbw7 := hbw6.trans (oE.bel (show w.heap.size ≤ V by omega))
            replace hv7 := Rg.hid hv7
            replace hbw7 := Rg.hid hbw7
            clear v0 v1 v2 v3 v4 oE hbw6 b6 hvn HP2 hD6
            have v0 := kV.cell 0
            have v1 := kV.cell 1
            have v2 := kV.cell 2
            have v3 := kV.cell 3
            have v4 := kV.cell 4
            simp only [List.getElem?_cons_zero, List.getElem?_cons_succ] at v0 v1 v2 v3 v4
            have vf := kV.thaw
            clear kV
            go_wp2
            go_roundw
            case rel => exact ⟨i + 1, r.1, by omega, by go_num, hf1, hwx, hv7, hbw7.out⟩
            case measure => simp [intOf]; omega
          · have e3 : decide (ck < (5 : Int)) = false := by simp; omega
            clear HP hnx hwx
            go_wp2
            go_roundw
            case rel => exact ⟨i + 1, d, by omega, by go_num, hkp, hwx0, hvn, bn⟩
            case measure => simp [intOf]; omega
        · obtain rfl : i = N := by omega
          have HS : Hid (∀ W v, DAt W v d → Calls Try.prog 12 #[v] W fun e w' => DEx W (Dsk.settle d d.ops.length, 0) e w') := fun W v hv => by
            have := sync_any v d W hkp.out.ok hv
            rw [Dsk.sync_ever hkp.out.fuse hkp.out.down] at this
            exact this.mono fun e w' q => q.ex
          have hkp2 := Rg.hid hkp.out.sync
          have hst0 := Rg.hid (Dsk.states_settled d hkp.out.down)
          have hwt2 := Rg.hid (show Dsk.Wt (Dsk.settle d d.ops.length) ≤ 150 * 70016 by have h1 := Dsk.settle_wt d d.ops.length; have h2 := hwt.out; have h3 : i * 70016 ≤ 150 * 70016 := Nat.mul_le_mul_right _ hlen; omega)
          have hops0 : Hid ((Dsk.settle d d.ops.length).ops.length = 0) := rfl
          generalize Dsk.settle d d.ops.length = d1 at *
          have HF : Hid (∀ W v, DAt W v d1 → Calls Try.prog 17 #[v] W fun e w' => ∃ a c, e = .returned (.slice a (Dsk.files d1).length c) ∧ fileE.Row w' a (Dsk.files d1) ∧ Below W.heap.size W w') := fun W v hv => (files_any v d1 W hkp2.out.ok hv).mono fun e w' ⟨v, h1, h2, h3⟩ => by
            obtain ⟨a, c, h4, h5⟩ := h2.shape
            exact ⟨a, c, by rw [h1, h4], h5, h3⟩
          obtain ⟨sa', sn', sc', oa', on', oc', cp', fs', dn', kV, hDv⟩ := hvar.out
          have v0 := kV.cell 0
          have v1 := kV.cell 1
          have v2 := kV.cell 2
          have v3 := kV.cell 3
          have v4 := kV.cell 4
          simp only [List.getElem?_cons_zero, List.getElem?_cons_succ] at v0 v1 v2 v3 v4
          replace hDv := Rg.hid hDv
          clear hkp hwt hrow hfit hdat hvar
          go_upto_region 11 with (go_at_call 12; refine (HS.out _ _ hDv.out).mono ?_; rintro e w6 ⟨sa6, sn6, sc6, oa6, on6, oc6, cp6, fs6, dn6, rfl, hD6, b6⟩; have kV6 := kV.below b6 kV.lt; have y0 := kV6.cell 0; have y1 := kV6.cell 1; have y2 := kV6.cell 2; have y3 := kV6.cell 3; have y4 := kV6.cell 4; simp only [List.getElem?_cons_zero, List.getElem?_cons_succ] at y0 y1 y2 y3 y4; have yf := kV6.thaw)
          have hv6 : DVar V w6 d := ⟨sa', sn', sc', oa', on', oc', cp', fs', dn', kV6, hDv.out.below b6⟩
          obtain ⟨hv7, oE⟩ := hv6.store hD6
          have hbw7 := (Rg.chain hbw b6).trans (oE.bel (show w.heap.size ≤ V by omega))
          clear v0 v1 v2 v3 v4 y0 y1 y2 y3 y4 yf kV6 kV b6 oE hv6 hD6 hDv HS hbw
          generalize World.setCell _ _ _ = W7 at *
          obtain ⟨q1, q2, q3, q4, q5, q6, q7, q8, q9, kV, hDv⟩ := hv7
          have v0 := kV.cell 0
          have v1 := kV.cell 1
          have v2 := kV.cell 2
          have v3 := kV.cell 3
          have v4 := kV.cell 4
          simp only [List.getElem?_cons_zero, List.getElem?_cons_succ] at v0 v1 v2 v3 v4
          replace hDv := Rg.hid hDv
          have kV' := Rg.hid kV
          clear kV
          go_wp2_with (go_at_call 17; refine (HF.out _ _ hDv.out).mono ?_)
          rintro e w8 ⟨fa, fc, rfl, hr8, b8⟩
          have hv8 : DVar V w8 d1 := ⟨q1, q2, q3, q4, q5, q6, q7, q8, q9, kV'.out.below b8 kV'.out.lt, hDv.out.below b8⟩
          have hbw8 := Rg.chain hbw7 b8
          obtain ⟨FN, hFN⟩ : ∃ FN, FN = (Dsk.files d1).length := ⟨_, rfl⟩
          rw [← hFN]
          have hsts : Hid (Sts w.heap.size (w8.alloc (.cells #[.slice fa FN fc] 25)) w8.heap.size 1 [⟨fa, FN, fc⟩] [] (Dsk.states d1)) := by
            show Sts _ _ _ _ _ _ _
            rw [hst0.out]
            refine ⟨⟨heap_alloc_new w8 _, hbw8.size, Nat.le_refl _, by decide, Nat.le_refl _⟩, (fun u hu => by cases hu), rfl, fun j h1 h2 => ?_⟩
            obtain rfl : j = 0 := by simp at h1; exact h1
            exact ⟨hFN, hr8.below (Rg.al1 _ _)⟩
          have hv9 := Rg.hid (hv8.below (Rg.al1 w8 (.cells #[.slice fa FN fc] 25)))
          have hbw9 := Rg.chain hbw8 (Rg.al1 w8 (.cells #[.slice fa FN fc] 25))
          have hVg : V ≠ w8.heap.size := by have := hv8.lt; omega
          clear v0 v1 v2 v3 v4 kV' hDv b8 hr8 hbw8 hv8 HF hst0 hbw7 hFN
          go_wp2
          generalize w8.alloc _ = W9 at *
          generalize w8.heap.size = g0 at *
          go_loopw [11, 53] (fun vs vi wr => ∃ (i : Nat) (d : Dsk.Dk) (g cap : Nat) (hs : List Hd) (rest : List Value), i ≤ M ∧ vi = .int .i64 i ∧ vs = .slice (some ⟨g, 0, none⟩) hs.length cap ∧ Hid (hs.length ≤ i + 1) ∧ Hid (Sts w.heap.size wr g cap hs rest (Dsk.states d)) ∧ V ≠ g ∧ Hid (Dsk.Ever d) ∧ Hid (Dsk.Wt d ≤ (150 + i) * 70016) ∧ Hid (DVar V wr d) ∧ Below w.heap.size w wr) (fun _ vi _ => M - (intOf vi).toNat)
          case atStart => exact ⟨0, d1, g0, 1, [⟨fa, FN, fc⟩], [], Nat.zero_le _, rfl, rfl, Nat.le_refl _, hsts, hVg, hkp2, hwt2, hv9, hbw9⟩
          case round =>
            clear hsts hVg hkp2 hwt2 hv9 hbw9 hops0
            obtain ⟨i, d, g, cap, hs, rest, hin, rfl, rfl, hsl, hst, hVg, hkp, hwt, hvar, hbw⟩ := hrel
            by_cases hlt : i < M
            · skip
              have hil : i < l2.length := by rw [← hM.out]; exact hlt
              obtain ⟨b, o, rfl, hb, hat⟩ : ∃ b o, a2 = some ⟨b, o, none⟩ ∧ b < w.heap.size ∧ Rg.At w b o (callE.flat l2) := by
                rcases hrow2.out with h | h
                · rw [h] at hil; simp at hil
                · exact h
              have at1 : Rg.At wr b (o + i * 5) (callE.enc l2[i]) := (hat.elem hil).below hbw hb
              have hcf : CFits l2[i] := hfit2.out _ (List.getElem_mem hil)
              have hcd : l2[i].x.size ≤ 70000 := hdat2.out _ (List.getElem_mem hil)
              generalize l2[i] = c at *
              have hw1 := Rg.hid (show Dsk.Wt d + c.x.size + 16 ≤ 10000000000 by have := hwt.out; omega)
              have HP := Rg.hid (fun W v h => play_var c hcf d hkp.out.ok hw1.out W v h)
              have hnx : Hid (c.k ≤ 5 → Dsk.Ever (Dsk.play d c).1) := fun h1 => hkp.out.play c hw1.out hcf.m h1
              have hone : Hid (1 ≤ c.k → c.k ≤ 4 → ((Dsk.play d c).2 ≠ 0 ∧ (Dsk.play d c).1 = d) ∨ ((Dsk.play d c).2 = 0 ∧ Dsk.states (Dsk.play d c).1 = Dsk.states d ++ [Dsk.files (Dsk.play d c).1])) := fun h1 h2 => by
                rcases hkp.out.one c h1 h2 with q | ⟨q, o, q'⟩
                · exact .inl q
                · exact .inr ⟨q, by rw [q']; exact Dsk.states_note d o hkp.out.down⟩
              have hwx := Rg.hid (show Dsk.Wt (Dsk.play d c).1 ≤ (150 + (i + 1)) * 70016 by have := (Dsk.play_ok hkp.out.ok c hw1.out hcf.m).2; have := hwt.out; omega)
              have hwx0 : Hid (Dsk.Wt d ≤ (150 + (i + 1)) * 70016) := Nat.le_trans hwt.out (Nat.mul_le_mul_right _ (Nat.le_succ (150 + i)))
              have hsl2 : Hid (hs.length ≤ i + 1 + 1) := Nat.le_succ_of_le hsl.out
              generalize Dsk.play d c = r at *
              obtain ⟨ck, cn, ct, cx, cm⟩ := c
              obtain ⟨c0, c1, c2, c3, c4⟩ := call_at at1
              dsimp only at HP hnx hone
              have hz0 : (0 : Int) ≤ (i : Int) := by omega
              have hz1 : (i : Int) < (M : Int) := by omega
              have bn := hbw.alloc hbw.size (.cells #[.int .i64 ck, .string cn, .string ct, .string cx, .int .i64 cm] 35)
              have hvn := Rg.hid (hvar.out.below (Rg.al1 wr (.cells #[.int .i64 ck, .string cn, .string ct, .string cx, .int .i64 cm] 35)))
              have hstn := Rg.hid (hst.out.below (Rg.al1 wr (.cells #[.int .i64 ck, .string cn, .string ct, .string cx, .int .i64 cm] 35)))
              clear at1 hat hil hrow2 hcf hcd hw1 hwt
              by_cases hk1 : ck < 1
              · have e3 : decide (ck < (1 : Int)) = true := by simp [hk1]
                clear HP hnx hwx hone
                go_wp2
                go_roundw
                case rel => exact ⟨i + 1, d, g, cap, hs, rest, by omega, by go_num, rfl, hsl2, hstn, hVg, hkp, hwx0, hvn, bn⟩
                case measure => simp [intOf]; omega
              · have e3 : decide (ck < (1 : Int)) = false := by simp; omega
                by_cases hk4 : (4 : Int) < ck
                · have e4 : decide ((4 : Int) < ck) = true := by simp [hk4]
                  clear HP hnx hwx hone
                  go_wp2
                  go_roundw
                  case rel => exact ⟨i + 1, d, g, cap, hs, rest, by omega, by go_num, rfl, hsl2, hstn, hVg, hkp, hwx0, hvn, bn⟩
                  case measure => simp [intOf]; omega
                · have e4 : decide ((4 : Int) < ck) = false := by simp; omega
                  have hf1 := Rg.hid (hnx.out (by omega))
                  have hone' := Rg.hid (hone.out (by omega) (by omega))
                  have HF : Hid (∀ W v, DAt W v r.1 → Calls Try.prog 17 #[v] W fun e w' => ∃ a c, e = .returned (.slice a (Dsk.files r.1).length c) ∧ fileE.Row w' a (Dsk.files r.1) ∧ Below W.heap.size W w') := fun W v hv => (files_any v r.1 W hf1.out.ok hv).mono fun e w' ⟨v, h1, h2, h3⟩ => by
                    obtain ⟨a, c, h4, h5⟩ := h2.shape
                    exact ⟨a, c, by rw [h1, h4], h5, h3⟩
                  obtain ⟨sa', sn', sc', oa', on', oc', cp', fs', dn', kV, hDv⟩ := hvar.out
                  have v0 := kV.cell 0
                  have v1 := kV.cell 1
                  have v2 := kV.cell 2
                  have v3 := kV.cell 3
                  have v4 := kV.cell 4
                  simp only [List.getElem?_cons_zero, List.getElem?_cons_succ] at v0 v1 v2 v3 v4
                  have hVlt := kV.lt
                  have HP2 := Rg.hid (HP.out (wr.alloc (.cells #[.int .i64 ck, .string cn, .string ct, .string cx, .int .i64 cm] 35)) _ (hDv.below (Rg.al1 _ _)))
                  clear hnx HP hvar hDv kV hst hone
                  go_upto_region 19 with (go_at_call 13; refine HP2.out.mono ?_; rintro e w6 ⟨sa6, sn6, sc6, oa6, on6, oc6, cp6, fs6, dn6, rfl, hD6, b6⟩)
                  have hv7 := Rg.hid ((hvn.out.below b6).below (Rg.al1 w6 (.cells #[.slice sa6 sn6 sc6, .slice oa6 on6 oc6, .int .i64 cp6, .int .i64 fs6, .bool dn6] 28)))
                  have hst7 := Rg.hid ((hstn.out.below b6).below (Rg.al1 w6 (.cells #[.slice sa6 sn6 sc6, .slice oa6 on6 oc6, .int .i64 cp6, .int .i64 fs6, .bool dn6] 28)))
                  have hbw7 := Rg.chain (Rg.chain bn b6) (Rg.al1 w6 (.cells #[.slice sa6 sn6 sc6, .slice oa6 on6 oc6, .int .i64 cp6, .int .i64 fs6, .bool dn6] 28))
                  have hk7 : Rg.Bk w6.heap.size [.slice sa6 sn6 sc6, .slice oa6 on6 oc6, .int .i64 cp6, .int .i64 fs6, .bool dn6] 28 (w6.alloc (.cells #[.slice sa6 sn6 sc6, .slice oa6 on6 oc6, .int .i64 cp6, .int .i64 fs6, .bool dn6] 28)) := Rg.Bk.new rfl
                  have hDc := Rg.hid (hD6.below (Rg.al1 w6 (.cells #[.slice sa6 sn6 sc6, .slice oa6 on6 oc6, .int .i64 cp6, .int .i64 fs6, .bool dn6] 28)))
                  have hVC : V ≠ w6.heap.size := by have := b6.size; simp at this; omega
                  have hgC : g ≠ w6.heap.size := by have h1 := hstn.out.own.lt; have h2 := b6.size; omega
                  have hVg7 := hVg
                  clear v0 v1 v2 v3 v4 b6 hvn hstn HP2 hD6 c0 c1 c2 c3 c4
                  generalize w6.alloc _ = W7 at *
                  generalize w6.heap.size = C at *
                  have x0 := hk7.cell 0
                  have x1 := hk7.cell 1
                  have x2 := hk7.cell 2
                  have x3 := hk7.cell 3
                  have x4 := hk7.cell 4
                  simp only [List.getElem?_cons_zero, List.getElem?_cons_succ] at x0 x1 x2 x3 x4
                  by_cases hz : r.2 = 0
                  · have dz : (r.2 == 0) = true := by simp [hz]
                    have dz' : (r.2 != 0) = false := by simp [hz]
                    have hns : Hid (Dsk.states r.1 = Dsk.states d ++ [Dsk.files r.1]) := by
                      rcases hone'.out with ⟨q, _⟩ | ⟨_, q⟩
                      · exact absurd hz q
                      · exact q
                    have hk7' := Rg.hid hk7
                    clear hone' hk7
                    go_wp2_with (go_at_call 17; refine (HF.out _ _ hDc.out).mono ?_)
                    rintro e w8 ⟨fa, fc, rfl, hr8, b8⟩
                    obtain ⟨FN, hFN⟩ : ∃ FN, FN = (Dsk.files r.1).length := ⟨_, rfl⟩
                    rw [← hFN]
                    have hstA := (hst7.out.below b8).below (Rg.al1 w8 (.cells #[.slice fa FN fc] 25))
                    have hvA := (hv7.out.below b8).below (Rg.al1 w8 (.cells #[.slice fa FN fc] 25))
                    have hkA := (hk7'.out.below b8 hk7'.out.lt).old (.cells #[.slice fa FN fc] 25)
                    have hDA := (hDc.out.below b8).below (Rg.al1 w8 (.cells #[.slice fa FN fc] 25))
                    have hbA := Rg.chain (Rg.chain hbw7 b8) (Rg.al1 w8 (.cells #[.slice fa FN fc] 25))
                    obtain ⟨g', cap', rest', wB, hap, hstB, hbB, hszB, hoth, hg'⟩ := hstA.append ⟨fa, FN, fc⟩ (Dsk.files r.1) hFN (hr8.below (Rg.al1 _ _)) w8.heap.size (Rg.cell_new rfl rfl) hbA.size (by have := hsl.out; omega)
                    rw [← hns.out] at hstB
                    have hvB := Rg.hid (hvA.turned hstA.bk hstA.noStr hVg hszB hoth)
                    have hDB := Rg.hid (hDA.turned hstA.bk hstA.noStr hszB hoth)
                    have hkB : Rg.Bk C [.slice sa6 sn6 sc6, .slice oa6 on6 oc6, .int .i64 cp6, .int .i64 fs6, .bool dn6] 28 wB := hkA.same (hoth C hkA.lt (Ne.symm hgC))
                    have hbB' := hbA.trans hbB
                    have hVg' : V ≠ g' := by
                      rcases hg' with q | q
                      · rw [q]; exact hVg
                      · have := hvA.lt; omega
                    have hlB : Hid ((hs ++ [(⟨fa, FN, fc⟩ : Hd)]).length ≤ i + 1 + 1) := by show _ ≤ _; have := hsl.out; simp; exact this
                    have hlE : Hid (hs.length + 1 = (hs ++ [(⟨fa, FN, fc⟩ : Hd)]).length) := by show _ = _; simp
                    replace hap := Rg.hid hap
                    replace hstB := Rg.hid hstB
                    clear hstA hvA hkA hDA hbA hbB hoth hszB hg' x0 x1 x2 x3 x4 hst7 hv7 hDc hk7' hbw7 b8 hr8 HF hFN hns
                    go_upto_region 21 with (at_builtin; refine Rg.wpList_append_run rfl (.tmp 73) (.tmp 76) 43 rfl _ _ rfl rfl _ _ hap.out ?_)
                    have hv7 := hvB
                    have hDc := hDB
                    have hbw7 := hbB'
                    have hVg7 := hVg'
                    have x0 := hkB.cell 0
                    have x1 := hkB.cell 1
                    have x2 := hkB.cell 2
                    have x3 := hkB.cell 3
                    have x4 := hkB.cell 4
                    simp only [List.getElem?_cons_zero, List.getElem?_cons_succ] at x0 x1 x2 x3 x4
                    clear hap hkB hvB hDB hbB' hVg'
                    obtain ⟨hv8, oE⟩ := hv7.out.store hDc.out
                    obtain ⟨q1, q2, q3, q4, q5, q6, q7, q8, q9, kV, _⟩ := hv7.out
                    have hst8 := Rg.hid (hstB.out.only kV plainD (Ne.symm hVg7) oE)
                    have v0 := kV.cell 0
                    have v1 := kV.cell 1
                    have v2 := kV.cell 2
                    have v3 := kV.cell 3
                    have v4 := kV.cell 4
                    simp only [List.getElem?_cons_zero, List.getElem?_cons_succ] at v0 v1 v2 v3 v4
                    have vf := kV.thaw
                    have hbw8 := Rg.hid (hbw7.trans (oE.bel (show w.heap.size ≤ V by omega)))
                    replace hv8 := Rg.hid hv8
                    clear kV oE hbw7 hv7 hDc
                    go_wp2
                    go_roundw
                    case rel => exact ⟨i + 1, r.1, g', cap', hs ++ [⟨fa, FN, fc⟩], rest', by omega, by go_num, by rw [← hlE.out], hlB, hst8, hVg7, hf1, hwx, hv8, hbw8.out⟩
                    case measure => simp [intOf]; omega
                  · have dz : (r.2 == 0) = false := by simp [hz]
                    have dz' : (r.2 != 0) = true := by simp [hz]
                    have hrd : r.1 = d := by
                      rcases hone'.out with ⟨_, q⟩ | ⟨q, _⟩
                      · exact q
                      · exact absurd q hz
                    have hst7' : Hid (Sts w.heap.size W7 g cap hs rest (Dsk.states r.1)) := by rw [hrd]; exact hst7
                    clear hone' hk7 HF hst7 hrd
                    obtain ⟨hv8, oE⟩ := hv7.out.store hDc.out
                    obtain ⟨q1, q2, q3, q4, q5, q6, q7, q8, q9, kV, _⟩ := hv7.out
                    have hst8 := Rg.hid (hst7'.out.only kV plainD (Ne.symm hVg7) oE)
                    have v0 := kV.cell 0
                    have v1 := kV.cell 1
                    have v2 := kV.cell 2
                    have v3 := kV.cell 3
                    have v4 := kV.cell 4
                    simp only [List.getElem?_cons_zero, List.getElem?_cons_succ] at v0 v1 v2 v3 v4
                    have vf := kV.thaw
                    have hbw8 := Rg.hid (hbw7.trans (oE.bel (show w.heap.size ≤ V by omega)))
                    replace hv8 := Rg.hid hv8
                    clear kV oE hbw7 hv7 hDc
                    go_wp2
                    go_roundw
                    case rel => exact ⟨i + 1, r.1, g, cap, hs, rest, by omega, by go_num, rfl, hsl2, hst8, hVg7, hf1, hwx, hv8, hbw8.out⟩
                    case measure => simp [intOf]; omega
            · obtain rfl : i = M := by omega
              have hkd := hkp.out
              obtain ⟨m, hm⟩ : ∃ m, m = d.ops.length := ⟨_, rfl⟩
              obtain ⟨k, hk⟩ : ∃ k, k = Dsk.keep n m := ⟨_, rfl⟩
              obtain ⟨H, hH⟩ : ∃ H, H = hs.length := ⟨_, rfl⟩
              have hHm : H = m + 1 := by rw [hH, hst.out.len, Dsk.states_len, hm]
              have hkm : k ≤ m := by rw [hk]; exact Dsk.keep_le n m
              have hHb : H ≤ 151 := by have := hsl.out; omega
              have hkh : k < hs.length := by omega
              have hks : k < (Dsk.states d).length := by rw [Dsk.states_len]; omega
              obtain ⟨hr1, hr2⟩ := hst.out.row k hkh hks
              have hcell := hd_at (by have := hst.out.own.row.elem hkh; rw [Nat.zero_add, show k * hdE.m = k by show k * 1 = k; omega] at this; exact this)
              have hfl : Dsk.files (Dsk.start (Dsk.crash d n)) = (Dsk.states d)[k] := by rw [Dsk.states_at, Dsk.crash_files, hk, hm]
              have e1 : ((H : Int) - 1) = (m : Int) := by omega
              have e2 := Dsk.keep_max n m
              rw [← hk] at e2
              rw [← hH]
              generalize (Dsk.states d)[k] = lk at *
              generalize hs[k] = hd at *
              obtain ⟨ka, kn, kc⟩ := hd
              dsimp only at hr1 hr2 hcell
              have hokc : Dsk.Ok (Dsk.start (Dsk.crash d n)) := by
                have := Dsk.settle_ok hkd.ok (Dsk.keep n d.ops.length)
                exact ⟨this.srt, this.wt, by show (-1 : Int) ≤ -1; omega, by show (-1 : Int) ≤ _; omega⟩
              have hlk : lk.length ≤ 1000000000 := by have h1 := hokc.files; have h2 := Dsk.len_used (Dsk.files (Dsk.start (Dsk.crash d n))); rw [hfl] at h1 h2; omega
              obtain ⟨sa', sn', sc', oa', on', oc', cp', fs', dn', kV, hDv⟩ := hvar.out
              have v0 := kV.cell 0
              have v1 := kV.cell 1
              have v2 := kV.cell 2
              have v3 := kV.cell 3
              have v4 := kV.cell 4
              simp only [List.getElem?_cons_zero, List.getElem?_cons_succ] at v0 v1 v2 v3 v4
              have hfacts : Hid (∀ W, Below wr.heap.size wr W → W.cell? ⟨V, 0, none⟩ = some (.slice sa' sn' sc') ∧ W.cell? ⟨V, 1, none⟩ = some (.slice oa' on' oc') ∧ W.cell? ⟨V, 2, none⟩ = some (.int .i64 cp') ∧ W.cell? ⟨V, 3, none⟩ = some (.int .i64 fs') ∧ W.cell? ⟨V, 4, none⟩ = some (.bool dn') ∧ W.cell? ⟨g, k, none⟩ = some (.slice ka kn kc)) := fun W hW => by
                have kV' := kV.below hW kV.lt
                exact ⟨kV'.cell 0, kV'.cell 1, kV'.cell 2, kV'.cell 3, kV'.cell 4, by rw [hW.cell (p := ⟨g, k, none⟩) hst.out.own.lt]; exact hcell⟩
              have HC : Hid (∀ W, Below wr.heap.size wr W → Calls Try.prog 16 #[.agg #[.slice sa' sn' sc', .slice oa' on' oc', .int .i64 cp', .int .i64 fs', .bool dn'], .int .i64 n] W fun e w' => ∃ sa6 sn6 sc6 oa6 on6 oc6 cp6 fs6 dn6, e = .returned (.agg #[.slice sa6 sn6 sc6, .slice oa6 on6 oc6, .int .i64 cp6, .int .i64 fs6, .bool dn6]) ∧ DAt w' (.agg #[.slice sa6 sn6 sc6, .slice oa6 on6 oc6, .int .i64 cp6, .int .i64 fs6, .bool dn6]) (Dsk.crash d n) ∧ Below wr.heap.size wr w' ∧ w'.cell? ⟨V, 0, none⟩ = some (.slice sa' sn' sc') ∧ w'.cell? ⟨V, 1, none⟩ = some (.slice oa' on' oc') ∧ w'.cell? ⟨V, 2, none⟩ = some (.int .i64 cp') ∧ w'.cell? ⟨V, 3, none⟩ = some (.int .i64 fs') ∧ w'.cell? ⟨V, 4, none⟩ = some (.bool dn') ∧ w'.cell? ⟨g, k, none⟩ = some (.slice ka kn kc)) := fun W hW => (crash_any _ d n W hkd.ok (hDv.below hW)).mono fun e w' q => by
                obtain ⟨sa6, sn6, sc6, oa6, on6, oc6, cp6, fs6, dn6, q1, q2, q3⟩ := q.ex
                exact ⟨sa6, sn6, sc6, oa6, on6, oc6, cp6, fs6, dn6, q1, q2, Rg.chain hW q3, hfacts.out _ (Rg.chain hW q3)⟩
              have HT : Hid (∀ W v, Below wr.heap.size wr W → DAt W v (Dsk.crash d n) → Calls Try.prog 15 #[v] W fun e w' => ∃ sa6 sn6 sc6 oa6 on6 oc6 cp6 fs6 dn6, e = .returned (.agg #[.slice sa6 sn6 sc6, .slice oa6 on6 oc6, .int .i64 cp6, .int .i64 fs6, .bool dn6]) ∧ DAt w' (.agg #[.slice sa6 sn6 sc6, .slice oa6 on6 oc6, .int .i64 cp6, .int .i64 fs6, .bool dn6]) (Dsk.start (Dsk.crash d n)) ∧ Below wr.heap.size wr w' ∧ w'.cell? ⟨V, 0, none⟩ = some (.slice sa' sn' sc') ∧ w'.cell? ⟨V, 1, none⟩ = some (.slice oa' on' oc') ∧ w'.cell? ⟨V, 2, none⟩ = some (.int .i64 cp') ∧ w'.cell? ⟨V, 3, none⟩ = some (.int .i64 fs') ∧ w'.cell? ⟨V, 4, none⟩ = some (.bool dn') ∧ w'.cell? ⟨g, k, none⟩ = some (.slice ka kn kc)) := fun W v hW hv => (start_any v (Dsk.crash d n) W hv).mono fun e w' q => by
                obtain ⟨sa6, sn6, sc6, oa6, on6, oc6, cp6, fs6, dn6, q1, q2, q3⟩ := q.ex
                exact ⟨sa6, sn6, sc6, oa6, on6, oc6, cp6, fs6, dn6, q1, q2, Rg.chain hW q3, hfacts.out _ (Rg.chain hW q3)⟩
              have HF : Hid (∀ W v, Below wr.heap.size wr W → DAt W v (Dsk.start (Dsk.crash d n)) → Calls Try.prog 17 #[v] W fun e w' => ∃ a c, e = .returned (.slice a kn c) ∧ fileE.Row w' a lk ∧ Below wr.heap.size wr w' ∧ w'.cell? ⟨V, 0, none⟩ = some (.slice sa' sn' sc') ∧ w'.cell? ⟨V, 1, none⟩ = some (.slice oa' on' oc') ∧ w'.cell? ⟨V, 2, none⟩ = some (.int .i64 cp') ∧ w'.cell? ⟨V, 3, none⟩ = some (.int .i64 fs') ∧ w'.cell? ⟨V, 4, none⟩ = some (.bool dn') ∧ w'.cell? ⟨g, k, none⟩ = some (.slice ka kn kc)) := fun W v hW hv => (files_any v _ W hokc hv).mono fun e w' ⟨v, h1, h2, h3⟩ => by
                obtain ⟨a, c, h4, h5⟩ := h2.shape
                rw [hfl] at h4 h5
                exact ⟨a, c, by rw [h1, h4, hr1], h5, Rg.chain hW h3, hfacts.out _ (Rg.chain hW h3)⟩
              have HSm : Hid (∀ W a c, Below wr.heap.size wr W → fileE.Row W a lk → Calls Try.prog 18 #[.slice a kn c, .slice ka kn kc] W fun e w' => e = .returned (.bool true) ∧ Below wr.heap.size wr w' ∧ w'.cell? ⟨V, 0, none⟩ = some (.slice sa' sn' sc') ∧ w'.cell? ⟨V, 1, none⟩ = some (.slice oa' on' oc') ∧ w'.cell? ⟨V, 2, none⟩ = some (.int .i64 cp') ∧ w'.cell? ⟨V, 3, none⟩ = some (.int .i64 fs') ∧ w'.cell? ⟨V, 4, none⟩ = some (.bool dn') ∧ w'.cell? ⟨g, k, none⟩ = some (.slice ka kn kc)) := fun W a c hW hrw => by
                have := same_any a c ka kc lk lk W hlk hrw (hr2.below hW)
                rw [← hr1] at this
                exact this.mono fun e w' ⟨h1, h2⟩ => ⟨by rw [h1]; simp, Rg.chain hW h2, hfacts.out _ (Rg.chain hW h2)⟩
              have HA2 : Hid (∀ W, Below wr.heap.size wr W → Calls Try.prog 9 #[] W fun e w' => e = .returned (.bool true) ∧ Below w.heap.size w w' ∧ w'.cell? ⟨V, 0, none⟩ = some (.slice sa' sn' sc') ∧ w'.cell? ⟨V, 1, none⟩ = some (.slice oa' on' oc') ∧ w'.cell? ⟨V, 2, none⟩ = some (.int .i64 cp') ∧ w'.cell? ⟨V, 3, none⟩ = some (.int .i64 fs') ∧ w'.cell? ⟨V, 4, none⟩ = some (.bool dn') ∧ w'.cell? ⟨g, k, none⟩ = some (.slice ka kn kc)) := fun W hW => (awake_any W).mono fun e w' ⟨h1, h2⟩ => ⟨h1, Rg.chain (Rg.chain hbw hW) h2, hfacts.out _ (Rg.chain hW h2)⟩
              have hz0 : (0 : Int) ≤ (k : Int) := by omega
              have hz1 : (k : Int) < (H : Int) := by omega
              clear hrow2 hfit2 hdat2 hsl hkp hkd hwt hr1 hr2 hokc hlk hfl hst hvar kV hDv HA hk hH hm hfacts hkh hks hHm
              generalize Dsk.start (Dsk.crash d n) = d3 at *
              generalize Dsk.crash d n = d2 at *
              go_wp2
              clear e1 e2
              go_region_held3 (fun w' => w'.cell? ⟨V, 0, none⟩ = some (.slice sa' sn' sc') ∧ w'.cell? ⟨V, 1, none⟩ = some (.slice oa' on' oc') ∧ w'.cell? ⟨V, 2, none⟩ = some (.int .i64 cp') ∧ w'.cell? ⟨V, 3, none⟩ = some (.int .i64 fs') ∧ w'.cell? ⟨V, 4, none⟩ = some (.bool dn') ∧ w'.cell? ⟨g, k, none⟩ = some (.slice ka kn kc)) (go_keep) (first
                | (go_at_call 16; refine (HC.out _ ?_).mono ?_; (first | exact Below.refl _ _ | exact (Below.refl _ _).drew); rintro e w6 ⟨sa6, sn6, sc6, oa6, on6, oc6, cp6, fs6, dn6, rfl, hD6, b6, y0, y1, y2, y3, y4, y5⟩)
                | (go_at_call 15; refine (HT.out _ _ b6 hD6).mono ?_; rintro e w7 ⟨sa7, sn7, sc7, oa7, on7, oc7, cp7, fs7, dn7, rfl, hD7, b7, z0, z1, z2, z3, z4, z5⟩)
                | (go_at_call 17; refine (HF.out _ _ b7 hD7).mono ?_; rintro e w8 ⟨fa, fc, rfl, hr8, b8, u0, u1, u2, u3, u4, u5⟩)
                | (go_at_call 18; refine (HSm.out _ _ _ b8 hr8).mono ?_; rintro e w9 ⟨rfl, b9, t0, t1, t2, t3, t4, t5⟩)
                | (go_at_call 9; refine (HA2.out _ b9).mono ?_; rintro e w10 ⟨rfl, b10, s0, s1, s2, s3, s4, s5⟩))
              go_wp2
              go_ret
              exact ⟨rfl, b10⟩
end Go.Proofs.Ytlefodpbdjiapaa
