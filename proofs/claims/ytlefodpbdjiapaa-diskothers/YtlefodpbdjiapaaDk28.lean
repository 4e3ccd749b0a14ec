/-
  Layer 6: DiskOthers.
-/
import Derived.Test.YtlefodpbdjiapaaDk27
namespace Go.Proofs.Ytlefodpbdjiapaa
open Go.RowKit

set_option maxHeartbeats 4000000 in
set_option maxRecDepth 100000 in
theorem others_walk (a : Option Addr) (ca : Nat) (l : List Dsk.Cl) (c : Dsk.Cl) (hlen : l.length * 64 ≤ 140737488351232) (hcp : l.length ≤ ca) (hnil : a = none → ca = 0) (hfit : ∀ c ∈ l, CFits c) (hfc : CFits c) (w : World) (hrow : CRow0 w a l) :
    Calls Try.prog 7 #[.slice a l.length ca, .agg #[.int .i64 c.k, .string c.n, .string c.t, .string c.x, .int .i64 c.m]] w fun e w' => VPost (.bool true) w e w' := by
  have hnl : Hid (a = none → l = []) := fun h => by have := hnil h; cases l with
    | nil => rfl
    | cons x y => simp at hcp; omega
  clear hnil
  obtain ⟨ok, oN, oT, oX, oM⟩ := c
  dsimp only at *
  obtain ⟨N, hN⟩ : ∃ N, N = l.length := ⟨_, rfl⟩
  rw [← hN]
  replace hN := Rg.hid hN
  replace hlen := Rg.hid hlen
  replace hfit := Rg.hid hfit
  replace hfc := Rg.hid hfc
  have hrow1 : Hid (CRow0 (w.alloc (.cells #[.int .i64 ok, .string oN, .string oT, .string oX, .int .i64 oM] 35)) a l) := hrow.below (Rg.al1 _ _)
  have hbw1 := Rg.hid (Rg.al1 w (.cells #[.int .i64 ok, .string oN, .string oT, .string oX, .int .i64 oM] 35))
  have kO : Rg.Bk w.heap.size [.int .i64 ok, .string oN, .string oT, .string oX, .int .i64 oM] 35 (w.alloc (.cells #[.int .i64 ok, .string oN, .string oT, .string oX, .int .i64 oM] 35)) := Rg.Bk.new rfl
  clear hrow
  go_enter Try.func7, Try.ntmps7
  go_upto_region 1 with fail
  have HA : Hid (∀ W, Below (w.alloc (.cells #[.int .i64 ok, .string oN, .string oT, .string oX, .int .i64 oM] 35)).heap.size (w.alloc (.cells #[.int .i64 ok, .string oN, .string oT, .string oX, .int .i64 oM] 35)) W → Calls Try.prog 9 #[] W fun e w' => VPost (.bool true) w e w') := fun W hW => (awake_any W).mono fun e w' ⟨h1, h2⟩ => ⟨h1, Rg.chain (Rg.chain hbw1.out hW) h2⟩
  generalize w.alloc _ = w1 at *
  obtain ⟨V0, hV0⟩ : ∃ V0, V0 = w.heap.size := ⟨_, rfl⟩
  rw [← hV0] at kO ⊢
  clear hV0
  have hrow := hrow1
  clear hrow1
  have hfacts : Hid (∀ W, Below w1.heap.size w1 W → W.cell? ⟨V0, 0, none⟩ = some (.int .i64 ok) ∧ W.cell? ⟨V0, 1, none⟩ = some (.string oN) ∧ W.cell? ⟨V0, 2, none⟩ = some (.string oT) ∧ W.cell? ⟨V0, 3, none⟩ = some (.string oX) ∧ W.cell? ⟨V0, 4, none⟩ = some (.int .i64 oM)) := fun W hW => by
    have k1' := kO.below hW kO.lt
    exact ⟨k1'.cell 0, k1'.cell 1, k1'.cell 2, k1'.cell 3, k1'.cell 4⟩
  have HA1 : Hid (∀ W g0, Below w1.heap.size w1 W → Rg.Bk g0 [] 35 W → w1.heap.size ≤ g0 → ∃ v' W', (Builtin.append_ #[22, 22] 22 #[.slice (some ⟨g0, 0, none⟩) 0 0, .slice a N ca]).run Try.prog W = .ok v' W' ∧ ∃ g cap rest, v' = .slice (some ⟨g, 0, none⟩) N cap ∧ callE.Own w1.heap.size W' g cap l rest ∧ Below W.heap.size W W' ∧ Below w1.heap.size w1 W' ∧ W'.cell? ⟨V0, 0, none⟩ = some (.int .i64 ok) ∧ W'.cell? ⟨V0, 1, none⟩ = some (.string oN) ∧ W'.cell? ⟨V0, 2, none⟩ = some (.string oT) ∧ W'.cell? ⟨V0, 3, none⟩ = some (.string oX) ∧ W'.cell? ⟨V0, 4, none⟩ = some (.int .i64 oM)) := fun W g0 hW hg hg0 => by
    have := app_calls (ca := ca) hrow.out hnl.out hlen.out hW g0 hg hg0
    rw [← hN.out] at this
    obtain ⟨v', W', h1, g, cap, rest, h2, h3, h4⟩ := this
    exact ⟨v', W', h1, g, cap, rest, h2, h3, h4, Rg.chain hW h4, hfacts.out _ (Rg.chain hW h4)⟩
  have HA2 : Hid (∀ W g cap rest ad, Below w1.heap.size w1 W → callE.Own w1.heap.size W g cap l rest → Rg.Bk ad [.int .i64 ok, .string oN, .string oT, .string oX, .int .i64 oM] 35 W → ∃ v' W', (Builtin.append_ #[22, 22] 22 #[.slice (some ⟨g, 0, none⟩) N cap, .slice (some ⟨ad, 0, none⟩) 1 1]).run Try.prog W = .ok v' W' ∧ ∃ g' cap', v' = .slice (some ⟨g', 0, none⟩) (N + 1) cap' ∧ CRow0 W' (some ⟨g', 0, none⟩) (l ++ [⟨ok, oN, oT, oX, oM⟩]) ∧ Below w1.heap.size w1 W' ∧ W'.cell? ⟨V0, 0, none⟩ = some (.int .i64 ok) ∧ W'.cell? ⟨V0, 1, none⟩ = some (.string oN) ∧ W'.cell? ⟨V0, 2, none⟩ = some (.string oT) ∧ W'.cell? ⟨V0, 3, none⟩ = some (.string oX) ∧ W'.cell? ⟨V0, 4, none⟩ = some (.int .i64 oM)) := fun W g cap rest ad hW ho hk => by
    have := app_one ho ⟨ok, oN, oT, oX, oM⟩ hlen.out hW.size ad (fun t u ht => by rw [Nat.zero_add, hk.cell t]; exact ht)
    rw [← hN.out] at this
    obtain ⟨v', W', h1, g', cap', h2, h3, h4⟩ := this
    exact ⟨v', W', h1, g', cap', h2, h3, hW.trans h4, hfacts.out _ (hW.trans h4)⟩
  have HH : Hid (∀ W g' cap', Below w1.heap.size w1 W → CRow0 W (some ⟨g', 0, none⟩) (l ++ [⟨ok, oN, oT, oX, oM⟩]) → Calls Try.prog 8 #[.slice (some ⟨g', 0, none⟩) (N + 1) cap'] W fun e w' => ∃ B : Bool, e = .returned (.bool B) ∧ Hid (B = false → Light (l ++ [⟨ok, oN, oT, oX, oM⟩])) ∧ Below w1.heap.size w1 w' ∧ w'.cell? ⟨V0, 0, none⟩ = some (.int .i64 ok) ∧ w'.cell? ⟨V0, 1, none⟩ = some (.string oN) ∧ w'.cell? ⟨V0, 2, none⟩ = some (.string oT) ∧ w'.cell? ⟨V0, 3, none⟩ = some (.string oX) ∧ w'.cell? ⟨V0, 4, none⟩ = some (.int .i64 oM)) := fun W g' cap' hW hr => by
    have := heavy_any (some ⟨g', 0, none⟩) cap' (l ++ [⟨ok, oN, oT, oX, oM⟩]) W (by have := hlen.out; simp; omega) hr
    rw [List.length_append, List.length_singleton, ← hN.out] at this
    exact this.mono fun e w' ⟨B, h1, h2, h3⟩ => ⟨B, h1, h2, Rg.chain hW h3, hfacts.out _ (Rg.chain hW h3)⟩
  go_cut [22] (fun s wx => ∃ B : Bool, s = .bool B ∧ Hid (B = false → Light (l ++ [⟨ok, oN, oT, oX, oM⟩])) ∧ Below w1.heap.size w1 wx)
  case first =>
    clear hlen hnl hfit hfc hrow hN hbw1 hcp
    have o0 := kO.cell 0
    have o1 := kO.cell 1
    have o2 := kO.cell 2
    have o3 := kO.cell 3
    have o4 := kO.cell 4
    simp only [List.getElem?_cons_zero, List.getElem?_cons_succ] at o0 o1 o2 o3 o4
    go_region_held3 (fun w' => w'.cell? ⟨V0, 0, none⟩ = some (.int .i64 ok) ∧ w'.cell? ⟨V0, 1, none⟩ = some (.string oN) ∧ w'.cell? ⟨V0, 2, none⟩ = some (.string oT) ∧ w'.cell? ⟨V0, 3, none⟩ = some (.string oX) ∧ w'.cell? ⟨V0, 4, none⟩ = some (.int .i64 oM)) (go_keep) (first
      | (refine Rg.step_append_ex (by rfl) (.tmp 16) (.tmp 17) 22 (by rfl) _ _ (by rfl) (by rfl) _ (HA1.out _ _ ?_ ?_ ?_) ?_; (first | exact (Rg.al1 _ _).drew | exact (Rg.al2 _ _ _).drew | exact Rg.al1 _ _ | exact Rg.al2 _ _ _); (first | exact (Rg.Bk.new (by simp)).drew | exact ((Rg.Bk.new (by simp)).old _).drew | exact Rg.Bk.new (by simp) | exact (Rg.Bk.new (by simp)).old _); (first | exact Nat.le_refl _ | exact Nat.le_succ _ | (simp <;> omega)); rintro v' wA ⟨g, cap, rest, rfl, hOwn, hb1, bA, z0, z1, z2, z3, z4⟩)
      | (refine Rg.step_append_ex (by rfl) (.tmp 18) (.tmp 20) 22 (by rfl) _ _ (by rfl) (by rfl) _ (HA2.out _ _ _ rest _ ?_ ?_ ?_) ?_; (first | exact bA | exact Rg.chain bA (Rg.al1 _ _)); (first | exact hOwn | exact hOwn.below (Rg.al1 _ _)); (first | exact Rg.Bk.new rfl | exact Rg.Bk.below ((Rg.Bk.new (by simp)).drew) hb1 (by simp <;> omega) | exact Rg.Bk.below (((Rg.Bk.new (by simp)).old _).drew) hb1 (by simp <;> omega)); rintro v' wB ⟨g', cap', rfl, hCR, bB, y0, y1, y2, y3, y4⟩)
      | (go_at_call 8; refine (HH.out _ _ _ bB hCR).mono ?_; rintro e wH ⟨B, rfl, hB, bH, x0, x1, x2, x3, x4⟩))
    all_goals (go_wp2_with fail; go_meet; exact ⟨_, rfl, hB, bH⟩)
  case rest =>
    obtain ⟨B, rfl, hB, b1⟩ := hcut
    clear HA1 HA2 HH
    replace hbw1 := hbw1.out
    have hw0 : Hid (Below w.heap.size w w1) := hbw1
    clear hbw1
    cases B
    case true =>
      go_wp2_with (go_at_call 9; refine (HA.out _ b1).mono ?_)
      rintro e w3 ⟨rfl, b2⟩
      go_wp2
      go_ret
      exact ⟨rfl, b2⟩
    case false =>
      have hL := hB.out rfl
      have hln : N ≤ 150 := by have := hL.len; rw [hN.out]; simp at this; omega
      have hdat := Rg.hid (fun c h => hL.data c (List.mem_append_left _ h))
      have hdo := Rg.hid (hL.data ⟨ok, oN, oT, oX, oM⟩ (by simp))
      dsimp only at hdo
      have HNw : Hid (∀ W, Calls Try.prog 11 #[.int .i64 30000] W fun e w' => VPost (.agg #[.slice none 0 0, .slice none 0 0, .int .i64 30000, .int .i64 (-1), .bool false]) W e w') := fun W => (new_any 30000 W).mono fun e w' ⟨h1, h2⟩ => ⟨h1, h2⟩
      have hD0 : Hid (∀ W, DAt W (.agg #[.slice none 0 0, .slice none 0 0, .int .i64 30000, .int .i64 (-1), .bool false]) (Dsk.new 30000)) := fun W => ⟨none, 0, none, 0, rfl, .inl ⟨rfl, rfl⟩, .inl ⟨rfl, rfl⟩, Nat.le_refl _, Nat.le_refl _⟩
      have hfu := Rg.hid (Dsk.Ever.new 30000)
      have hw00 : Hid (Dsk.Wt (Dsk.new 30000) ≤ 0 * 70016) := Nat.le_refl _
      generalize Dsk.new 30000 = d0 at *
      clear hB hL
      go_wp2_with (go_at_call 11; refine (HNw.out _).mono ?_)
      rintro e w3 ⟨rfl, b3⟩
      have hV := Rg.hid (DVar.new (hD0.out w3))
      have hbw3 := Rg.chain (Rg.chain b1 b3) (Rg.al1 w3 (.cells #[.slice none 0 0, .slice none 0 0, .int .i64 30000, .int .i64 (-1), .bool false] 28))
      have hVw : w1.heap.size ≤ w3.heap.size := (Rg.chain b1 b3).size
      clear HNw hD0 b1 b3
      go_wp2
      generalize w3.alloc _ = W3 at *
      generalize w3.heap.size = V at *
      replace kO := Rg.hid kO
      go_loopw [27] (fun vi wr => ∃ (i : Nat) (d : Dsk.Dk), i ≤ N ∧ vi = .int .i64 i ∧ Hid (Dsk.Ever d) ∧ Hid (Dsk.Wt d ≤ i * 70016) ∧ Hid (DVar V wr d) ∧ Below w1.heap.size w1 wr) (fun vi _ => N - (intOf vi).toNat)
      case atStart => exact ⟨0, d0, Nat.zero_le _, rfl, hfu, hw00, hV, hbw3⟩
      case round =>
        obtain ⟨i, d, hin, rfl, hkp, hwt, hvar, hbw⟩ := hrel
        by_cases hlt : i < N
        · have hil : i < l.length := by rw [← hN.out]; exact hlt
          obtain ⟨b, o, rfl, hb, hat⟩ : ∃ b o, a = some ⟨b, o, none⟩ ∧ b < w1.heap.size ∧ Rg.At w1 b o (callE.flat l) := by
            rcases hrow.out with h | h
            · rw [h] at hil; simp at hil
            · exact h
          have at1 : Rg.At wr b (o + i * 5) (callE.enc l[i]) := (hat.elem hil).below hbw hb
          have hcf : CFits l[i] := hfit.out _ (List.getElem_mem hil)
          have hcd : l[i].x.size ≤ 70000 := hdat.out _ (List.getElem_mem hil)
          generalize l[i] = c at *
          have hw1 := Rg.hid (show Dsk.Wt d + c.x.size + 16 ≤ 10000000000 by have := hwt.out; omega)
          have HP := Rg.hid (fun W v h => play_var c hcf d hkp.out.ok hw1.out W v h)
          have hnx : Hid (c.k ≤ 5 → Dsk.Ever (Dsk.play d c).1) := fun h1 => hkp.out.play c hw1.out hcf.m h1
          have hwx := Rg.hid (show Dsk.Wt (Dsk.play d c).1 ≤ (i + 1) * 70016 by have := (Dsk.play_ok hkp.out.ok c hw1.out hcf.m).2; have := hwt.out; omega)
          have hwx0 : Hid (Dsk.Wt d ≤ (i + 1) * 70016) := Nat.le_trans hwt.out (Nat.mul_le_mul_right _ (Nat.le_succ i))
          generalize Dsk.play d c = r at *
          obtain ⟨ck, cn, ct, cx, cm⟩ := c
          obtain ⟨c0, c1, c2, c3, c4⟩ := call_at at1
          dsimp only at HP hnx
          have hz0 : (0 : Int) ≤ (i : Int) := by omega
          have hz1 : (i : Int) < (N : Int) := by omega
          have bn := hbw.alloc hbw.size (.cells #[.int .i64 ck, .string cn, .string ct, .string cx, .int .i64 cm] 35)
          have hvn := Rg.hid (hvar.out.below (Rg.al1 wr (.cells #[.int .i64 ck, .string cn, .string ct, .string cx, .int .i64 cm] 35)))
          clear at1 hat hil hrow hcf hcd hw1 hwt
          by_cases hk5 : ck < 6
          · have e3 : decide (ck < (6 : Int)) = true := by simp [hk5]
            have hf1 := Rg.hid (hnx.out (by omega))
            obtain ⟨sa', sn', sc', oa', on', oc', cp', fs', dn', kV, hDv⟩ := hvar.out
            have v0 := kV.cell 0
            have v1 := kV.cell 1
            have v2 := kV.cell 2
            have v3 := kV.cell 3
            have v4 := kV.cell 4
            simp only [List.getElem?_cons_zero, List.getElem?_cons_succ] at v0 v1 v2 v3 v4
            have hVlt := kV.lt
            have HP2 := Rg.hid (HP.out (wr.alloc (.cells #[.int .i64 ck, .string cn, .string ct, .string cx, .int .i64 cm] 35)) _ (hDv.below (Rg.al1 _ _)))
            clear hnx HP hvar hDv kV
            go_wp2_with (go_at_call 13; refine HP2.out.mono ?_)
            rintro e w6 ⟨sa6, sn6, sc6, oa6, on6, oc6, cp6, fs6, dn6, rfl, hD6, b6⟩
            have hv6 := hvn.out.below b6
            have hbw6 := Rg.chain bn b6
            obtain ⟨hv7, oE⟩ := hv6.store hD6
            obtain ⟨q1, q2, q3, q4, q5, q6, q7, q8, q9, kV, _⟩ := hv6
            have hbw7 := hbw6.trans (oE.bel (show w1.heap.size ≤ V by omega))
            replace hv7 := Rg.hid hv7
            replace hbw7 := Rg.hid hbw7
            clear v0 v1 v2 v3 v4 oE hbw6 b6 hvn HP2 hD6
            have v0 := kV.cell 0
            have v1 := kV.cell 1
            have v2 := kV.cell 2
            have v3 := kV.cell 3
            have v4 := kV.cell 4
            simp only [List.getElem?_cons_zero, List.getElem?_cons_succ] at v0 v1 v2 v3 v4
            have vf := kV.thaw
            clear kV
            go_wp2
            go_roundw
            case rel => exact ⟨i + 1, r.1, by omega, by go_num, hf1, hwx, hv7, hbw7.out⟩
            case measure => simp [intOf]; omega
          · have e3 : decide (ck < (6 : Int)) = false := by simp; omega
            clear HP hnx hwx
            go_wp2
            go_roundw
            case rel => exact ⟨i + 1, d, by omega, by go_num, hkp, hwx0, hvn, bn⟩
            case measure => simp [intOf]; omega
        · obtain rfl : i = N := by omega
          have kO2 := kO.out.below hbw kO.out.lt
          have o0 := kO2.cell 0
          have o1 := kO2.cell 1
          have o2 := kO2.cell 2
          have o3 := kO2.cell 3
          have o4 := kO2.cell 4
          simp only [List.getElem?_cons_zero, List.getElem?_cons_succ] at o0 o1 o2 o3 o4
          clear hdat hfit hrow hlen
          by_cases hk5 : (5 : Int) < ok
          · have e3 : decide ((5 : Int) < ok) = true := by simp [hk5]
            clear hvar hkp hwt
            go_wp2_with (go_at_call 9; refine (HA.out _ hbw).mono ?_)
            rintro e w9 ⟨rfl, b9⟩
            go_wp2
            go_ret
            exact ⟨rfl, b9⟩
          · have e3 : decide ((5 : Int) < ok) = false := by simp; omega
            have hw1 := Rg.hid (show Dsk.Wt d + oX.size + 16 ≤ 10000000000 by have h1 := hwt.out; have h2 := hdo.out; have h3 : i * 70016 ≤ 150 * 70016 := Nat.mul_le_mul_right _ hln; omega)
            have hok5 : ok ≤ 5 := by omega
            have hoth : Hid (∀ n, oN ≠ n → oT ≠ n → Dsk.read (Dsk.play d ⟨ok, oN, oT, oX, oM⟩).1 n = Dsk.read d n) := fun n h1 h2 => hkp.out.others ⟨ok, oN, oT, oX, oM⟩ hok5 n h1 h2
            have hok2 := Rg.hid (Dsk.play_ok hkp.out.ok ⟨ok, oN, oT, oX, oM⟩ hw1.out hfc.out.m).1
            have HP := Rg.hid (fun W v h => play_var ⟨ok, oN, oT, oX, oM⟩ hfc.out d hkp.out.ok hw1.out W v h)
            generalize Dsk.play d ⟨ok, oN, oT, oX, oM⟩ = r at *
            dsimp only at HP
            obtain ⟨sa', sn', sc', oa', on', oc', cp', fs', dn', kV, hDv⟩ := hvar.out
            have v0 := kV.cell 0
            have v1 := kV.cell 1
            have v2 := kV.cell 2
            have v3 := kV.cell 3
            have v4 := kV.cell 4
            simp only [List.getElem?_cons_zero, List.getElem?_cons_succ] at v0 v1 v2 v3 v4
            have hVlt := kV.lt
            have HP2 := Rg.hid (HP.out _ _ hDv)
            have kV' := Rg.hid kV
            have hDv' := Rg.hid hDv
            clear HP hDv kV hwt hw1 hdo hfc kO2
            go_upto_region 13 with (go_at_call 13; refine HP2.out.mono ?_; rintro e w6 ⟨saC, snC, scC, oaC, onC, ocC, cpC, fsC, dnC, rfl, hDC, b6⟩)
            have hkV := Rg.hid ((kV'.out.below b6 kV'.out.lt).old (.cells #[.slice saC snC scC, .slice oaC onC ocC, .int .i64 cpC, .int .i64 fsC, .bool dnC] 28))
            have hkC : Rg.Bk w6.heap.size [.slice saC snC scC, .slice oaC onC ocC, .int .i64 cpC, .int .i64 fsC, .bool dnC] 28 (w6.alloc (.cells #[.slice saC snC scC, .slice oaC onC ocC, .int .i64 cpC, .int .i64 fsC, .bool dnC] 28)) := Rg.Bk.new rfl
            have hDd := Rg.hid ((hDv'.out.below b6).below (Rg.al1 w6 (.cells #[.slice saC snC scC, .slice oaC onC ocC, .int .i64 cpC, .int .i64 fsC, .bool dnC] 28)))
            have hDc := Rg.hid (hDC.below (Rg.al1 w6 (.cells #[.slice saC snC scC, .slice oaC onC ocC, .int .i64 cpC, .int .i64 fsC, .bool dnC] 28)))
            have hb8 := Rg.chain (Rg.chain hbw b6) (Rg.al1 w6 (.cells #[.slice saC snC scC, .slice oaC onC ocC, .int .i64 cpC, .int .i64 fsC, .bool dnC] 28))
            clear v0 v1 v2 v3 v4 o0 o1 o2 o3 o4 b6 HP2 hDC kV' hDv' hvar hbw hVlt hbw3 hV hfu hw00 hln
            generalize w6.alloc _ = W8 at *
            generalize w6.heap.size = C at *
            have kO8 := kO.out.below hb8 kO.out.lt
            have hf8 : Hid (∀ W, Below W8.heap.size W8 W → W.cell? ⟨V, 0, none⟩ = some (.slice sa' sn' sc') ∧ W.cell? ⟨V, 1, none⟩ = some (.slice oa' on' oc') ∧ W.cell? ⟨V, 2, none⟩ = some (.int .i64 cp') ∧ W.cell? ⟨V, 3, none⟩ = some (.int .i64 fs') ∧ W.cell? ⟨V, 4, none⟩ = some (.bool dn') ∧ W.cell? ⟨C, 0, none⟩ = some (.slice saC snC scC) ∧ W.cell? ⟨C, 1, none⟩ = some (.slice oaC onC ocC) ∧ W.cell? ⟨C, 2, none⟩ = some (.int .i64 cpC) ∧ W.cell? ⟨C, 3, none⟩ = some (.int .i64 fsC) ∧ W.cell? ⟨C, 4, none⟩ = some (.bool dnC) ∧ W.cell? ⟨V0, 0, none⟩ = some (.int .i64 ok) ∧ W.cell? ⟨V0, 1, none⟩ = some (.string oN) ∧ W.cell? ⟨V0, 2, none⟩ = some (.string oT) ∧ W.cell? ⟨V0, 3, none⟩ = some (.string oX) ∧ W.cell? ⟨V0, 4, none⟩ = some (.int .i64 oM)) := fun W hW => by
              have k1' := hkV.out.below hW hkV.out.lt
              have k2' := hkC.below hW hkC.lt
              have k3' := kO8.below hW kO8.lt
              exact ⟨k1'.cell 0, k1'.cell 1, k1'.cell 2, k1'.cell 3, k1'.cell 4, k2'.cell 0, k2'.cell 1, k2'.cell 2, k2'.cell 3, k2'.cell 4, k3'.cell 0, k3'.cell 1, k3'.cell 2, k3'.cell 3, k3'.cell 4⟩
            have hl1 : (Dsk.files d).length ≤ 1000000000 := by have h1 := hkp.out.ok.files; have h2 := Dsk.len_used (Dsk.files d); omega
            have hl2 : (Dsk.files r.1).length ≤ 1000000000 := by have h1 := hok2.out.files; have h2 := Dsk.len_used (Dsk.files r.1); omega
            obtain ⟨xs, hxs⟩ : ∃ xs, xs = (Dsk.files d).map (·.n) := ⟨_, rfl⟩
            obtain ⟨ys, hys⟩ : ∃ ys, ys = (Dsk.files r.1).map (·.n) := ⟨_, rfl⟩
            obtain ⟨X, hX⟩ : ∃ X, X = xs.length := ⟨_, rfl⟩
            obtain ⟨Y, hY⟩ : ∃ Y, Y = ys.length := ⟨_, rfl⟩
            obtain ⟨Z, hZ⟩ : ∃ Z, Z = X + Y := ⟨_, rfl⟩
            have hXb : X ≤ 1000000000 := by rw [hX, hxs, List.length_map]; exact hl1
            have hYb : Y ≤ 1000000000 := by rw [hY, hys, List.length_map]; exact hl2
            have hZb : Z ≤ 2000000000 := by omega
            have hZl : Hid (Z = (xs ++ ys).length) := by show _ = _; rw [hZ, hX, hY, List.length_append]
            have HL1 : Hid (∀ W, Below W8.heap.size W8 W → Calls Try.prog 22 #[.agg #[.slice sa' sn' sc', .slice oa' on' oc', .int .i64 cp', .int .i64 fs', .bool dn']] W fun e w' => ∃ g, e = .returned (.slice (some ⟨g, 0, none⟩) X X) ∧ strE.Row w' (some ⟨g, 0, none⟩) xs ∧ Below W.heap.size W w' ∧ Below W8.heap.size W8 w' ∧ w'.cell? ⟨V, 0, none⟩ = some (.slice sa' sn' sc') ∧ w'.cell? ⟨V, 1, none⟩ = some (.slice oa' on' oc') ∧ w'.cell? ⟨V, 2, none⟩ = some (.int .i64 cp') ∧ w'.cell? ⟨V, 3, none⟩ = some (.int .i64 fs') ∧ w'.cell? ⟨V, 4, none⟩ = some (.bool dn') ∧ w'.cell? ⟨C, 0, none⟩ = some (.slice saC snC scC) ∧ w'.cell? ⟨C, 1, none⟩ = some (.slice oaC onC ocC) ∧ w'.cell? ⟨C, 2, none⟩ = some (.int .i64 cpC) ∧ w'.cell? ⟨C, 3, none⟩ = some (.int .i64 fsC) ∧ w'.cell? ⟨C, 4, none⟩ = some (.bool dnC) ∧ w'.cell? ⟨V0, 0, none⟩ = some (.int .i64 ok) ∧ w'.cell? ⟨V0, 1, none⟩ = some (.string oN) ∧ w'.cell? ⟨V0, 2, none⟩ = some (.string oT) ∧ w'.cell? ⟨V0, 3, none⟩ = some (.string oX) ∧ w'.cell? ⟨V0, 4, none⟩ = some (.int .i64 oM)) := fun W hW => by
              have := list_full _ d W hkp.out.ok (hDd.out.below hW)
              rw [← hxs] at this
              exact this.mono fun e w' ⟨g, h1, h2, h3⟩ => ⟨g, by rw [hX]; exact h1, h2, h3, Rg.chain hW h3, hf8.out _ (Rg.chain hW h3)⟩
            have HL2 : Hid (∀ W, Below W8.heap.size W8 W → Calls Try.prog 22 #[.agg #[.slice saC snC scC, .slice oaC onC ocC, .int .i64 cpC, .int .i64 fsC, .bool dnC]] W fun e w' => ∃ g, e = .returned (.slice (some ⟨g, 0, none⟩) Y Y) ∧ strE.Row w' (some ⟨g, 0, none⟩) ys ∧ Below W.heap.size W w' ∧ Below W8.heap.size W8 w' ∧ w'.cell? ⟨V, 0, none⟩ = some (.slice sa' sn' sc') ∧ w'.cell? ⟨V, 1, none⟩ = some (.slice oa' on' oc') ∧ w'.cell? ⟨V, 2, none⟩ = some (.int .i64 cp') ∧ w'.cell? ⟨V, 3, none⟩ = some (.int .i64 fs') ∧ w'.cell? ⟨V, 4, none⟩ = some (.bool dn') ∧ w'.cell? ⟨C, 0, none⟩ = some (.slice saC snC scC) ∧ w'.cell? ⟨C, 1, none⟩ = some (.slice oaC onC ocC) ∧ w'.cell? ⟨C, 2, none⟩ = some (.int .i64 cpC) ∧ w'.cell? ⟨C, 3, none⟩ = some (.int .i64 fsC) ∧ w'.cell? ⟨C, 4, none⟩ = some (.bool dnC) ∧ w'.cell? ⟨V0, 0, none⟩ = some (.int .i64 ok) ∧ w'.cell? ⟨V0, 1, none⟩ = some (.string oN) ∧ w'.cell? ⟨V0, 2, none⟩ = some (.string oT) ∧ w'.cell? ⟨V0, 3, none⟩ = some (.string oX) ∧ w'.cell? ⟨V0, 4, none⟩ = some (.int .i64 oM)) := fun W hW => by
              have := list_full _ r.1 W hok2.out (hDc.out.below hW)
              rw [← hys] at this
              exact this.mono fun e w' ⟨g, h1, h2, h3⟩ => ⟨g, by rw [hY]; exact h1, h2, h3, Rg.chain hW h3, hf8.out _ (Rg.chain hW h3)⟩
            have HAp : Hid (∀ W g g2, Below W8.heap.size W8 W → strE.Row W (some ⟨g, 0, none⟩) xs → strE.Row W (some ⟨g2, 0, none⟩) ys → ∃ v' W', (Builtin.append_ #[50, 50] 50 #[.slice (some ⟨g, 0, none⟩) X X, .slice (some ⟨g2, 0, none⟩) Y Y]).run Try.prog W = .ok v' W' ∧ ∃ g' cap', v' = .slice (some ⟨g', 0, none⟩) Z cap' ∧ strE.Row W' (some ⟨g', 0, none⟩) (xs ++ ys) ∧ Below W8.heap.size W8 W' ∧ W'.cell? ⟨V, 0, none⟩ = some (.slice sa' sn' sc') ∧ W'.cell? ⟨V, 1, none⟩ = some (.slice oa' on' oc') ∧ W'.cell? ⟨V, 2, none⟩ = some (.int .i64 cp') ∧ W'.cell? ⟨V, 3, none⟩ = some (.int .i64 fs') ∧ W'.cell? ⟨V, 4, none⟩ = some (.bool dn') ∧ W'.cell? ⟨C, 0, none⟩ = some (.slice saC snC scC) ∧ W'.cell? ⟨C, 1, none⟩ = some (.slice oaC onC ocC) ∧ W'.cell? ⟨C, 2, none⟩ = some (.int .i64 cpC) ∧ W'.cell? ⟨C, 3, none⟩ = some (.int .i64 fsC) ∧ W'.cell? ⟨C, 4, none⟩ = some (.bool dnC) ∧ W'.cell? ⟨V0, 0, none⟩ = some (.int .i64 ok) ∧ W'.cell? ⟨V0, 1, none⟩ = some (.string oN) ∧ W'.cell? ⟨V0, 2, none⟩ = some (.string oT) ∧ W'.cell? ⟨V0, 3, none⟩ = some (.string oX) ∧ W'.cell? ⟨V0, 4, none⟩ = some (.int .i64 oM)) := fun W g g2 hW h1 h2 => by
              have := app_names h1 h2 (by rw [← hX, ← hY]; omega)
              rw [← hX, ← hY, ← hZ] at this
              obtain ⟨v', W', q1, g', cap', q2, q3, q4⟩ := this
              exact ⟨v', W', q1, g', cap', q2, q3, Rg.chain hW q4, hf8.out _ (Rg.chain hW q4)⟩
            have HR1 : Hid (∀ W n, Below W8.heap.size W8 W → Calls Try.prog 14 #[.agg #[.slice sa' sn' sc', .slice oa' on' oc', .int .i64 cp', .int .i64 fs', .bool dn'], .string n] W fun e w' => e = .returned (.tuple #[.string (Dsk.read d n).1, .int .i64 (Dsk.read d n).2]) ∧ Below W.heap.size W w' ∧ Below W8.heap.size W8 w' ∧ w'.cell? ⟨V, 0, none⟩ = some (.slice sa' sn' sc') ∧ w'.cell? ⟨V, 1, none⟩ = some (.slice oa' on' oc') ∧ w'.cell? ⟨V, 2, none⟩ = some (.int .i64 cp') ∧ w'.cell? ⟨V, 3, none⟩ = some (.int .i64 fs') ∧ w'.cell? ⟨V, 4, none⟩ = some (.bool dn') ∧ w'.cell? ⟨C, 0, none⟩ = some (.slice saC snC scC) ∧ w'.cell? ⟨C, 1, none⟩ = some (.slice oaC onC ocC) ∧ w'.cell? ⟨C, 2, none⟩ = some (.int .i64 cpC) ∧ w'.cell? ⟨C, 3, none⟩ = some (.int .i64 fsC) ∧ w'.cell? ⟨C, 4, none⟩ = some (.bool dnC) ∧ w'.cell? ⟨V0, 0, none⟩ = some (.int .i64 ok) ∧ w'.cell? ⟨V0, 1, none⟩ = some (.string oN) ∧ w'.cell? ⟨V0, 2, none⟩ = some (.string oT) ∧ w'.cell? ⟨V0, 3, none⟩ = some (.string oX) ∧ w'.cell? ⟨V0, 4, none⟩ = some (.int .i64 oM)) := fun W n hW => (read_any _ d n W hkp.out.ok (hDd.out.below hW)).mono fun e w' ⟨h1, h2⟩ => ⟨h1, h2, Rg.chain hW h2, hf8.out _ (Rg.chain hW h2)⟩
            have HR2 : Hid (∀ W n, Below W8.heap.size W8 W → Calls Try.prog 14 #[.agg #[.slice saC snC scC, .slice oaC onC ocC, .int .i64 cpC, .int .i64 fsC, .bool dnC], .string n] W fun e w' => e = .returned (.tuple #[.string (Dsk.read r.1 n).1, .int .i64 (Dsk.read r.1 n).2]) ∧ Below W.heap.size W w' ∧ Below W8.heap.size W8 w' ∧ w'.cell? ⟨V, 0, none⟩ = some (.slice sa' sn' sc') ∧ w'.cell? ⟨V, 1, none⟩ = some (.slice oa' on' oc') ∧ w'.cell? ⟨V, 2, none⟩ = some (.int .i64 cp') ∧ w'.cell? ⟨V, 3, none⟩ = some (.int .i64 fs') ∧ w'.cell? ⟨V, 4, none⟩ = some (.bool dn') ∧ w'.cell? ⟨C, 0, none⟩ = some (.slice saC snC scC) ∧ w'.cell? ⟨C, 1, none⟩ = some (.slice oaC onC ocC) ∧ w'.cell? ⟨C, 2, none⟩ = some (.int .i64 cpC) ∧ w'.cell? ⟨C, 3, none⟩ = some (.int .i64 fsC) ∧ w'.cell? ⟨C, 4, none⟩ = some (.bool dnC) ∧ w'.cell? ⟨V0, 0, none⟩ = some (.int .i64 ok) ∧ w'.cell? ⟨V0, 1, none⟩ = some (.string oN) ∧ w'.cell? ⟨V0, 2, none⟩ = some (.string oT) ∧ w'.cell? ⟨V0, 3, none⟩ = some (.string oX) ∧ w'.cell? ⟨V0, 4, none⟩ = some (.int .i64 oM)) := fun W n hW => (read_any _ r.1 n W hok2.out (hDc.out.below hW)).mono fun e w' ⟨h1, h2⟩ => ⟨h1, h2, Rg.chain hW h2, hf8.out _ (Rg.chain hW h2)⟩
            clear hxs hys hX hY hZ hXb hYb hl1 hl2
            go_cut [55, 56, 57] (fun s55 s56 s57 wx => ∃ g cap, s55 = .slice (some ⟨g, 0, none⟩) Z cap ∧ s56 = .int .i64 Z ∧ s57 = .int .i64 0 ∧ strE.Row wx (some ⟨g, 0, none⟩) (xs ++ ys) ∧ Below W8.heap.size W8 wx)
            case first =>
              clear HR1 HR2 hZl hoth hok2 hkp hDd hDc hb8 kO hN HA hw0
              obtain ⟨v0, v1, v2, v3, v4, y0, y1, y2, y3, y4, o0, o1, o2, o3, o4⟩ := hf8.out _ (Below.refl _ _)
              clear hf8 hkV hkC kO8
              go_region_held3 (fun w' => w'.cell? ⟨V, 0, none⟩ = some (.slice sa' sn' sc') ∧ w'.cell? ⟨V, 1, none⟩ = some (.slice oa' on' oc') ∧ w'.cell? ⟨V, 2, none⟩ = some (.int .i64 cp') ∧ w'.cell? ⟨V, 3, none⟩ = some (.int .i64 fs') ∧ w'.cell? ⟨V, 4, none⟩ = some (.bool dn') ∧ w'.cell? ⟨C, 0, none⟩ = some (.slice saC snC scC) ∧ w'.cell? ⟨C, 1, none⟩ = some (.slice oaC onC ocC) ∧ w'.cell? ⟨C, 2, none⟩ = some (.int .i64 cpC) ∧ w'.cell? ⟨C, 3, none⟩ = some (.int .i64 fsC) ∧ w'.cell? ⟨C, 4, none⟩ = some (.bool dnC) ∧ w'.cell? ⟨V0, 0, none⟩ = some (.int .i64 ok) ∧ w'.cell? ⟨V0, 1, none⟩ = some (.string oN) ∧ w'.cell? ⟨V0, 2, none⟩ = some (.string oT) ∧ w'.cell? ⟨V0, 3, none⟩ = some (.string oX) ∧ w'.cell? ⟨V0, 4, none⟩ = some (.int .i64 oM)) (go_keep) (first
                | (have hbb := b9'; clear hbb; go_at_call 22; refine (HL2.out _ b9').mono ?_; rintro e w10 ⟨g2, rfl, hr2, b10, b10', t0, t1, t2, t3, t4, t5, t6, t7, t8, t9, t10, t11, t12, t13, t14⟩)
                | (go_at_call 22; refine (HL1.out _ ?_).mono ?_; (first | exact Below.refl _ _ | exact (Below.refl _ _).drew); rintro e w9 ⟨g1, rfl, hr1, b9, b9', z0, z1, z2, z3, z4, z5, z6, z7, z8, z9, z10, z11, z12, z13, z14⟩)
                | (refine Rg.step_append_ex (by rfl) (.tmp 52) (.tmp 54) 50 (by rfl) _ _ (by rfl) (by rfl) _ (HAp.out _ _ _ b10' (hr1.below b10) hr2) ?_; rintro v' w11 ⟨g3, cap3, rfl, hr3, b11, p0, p1, p2, p3, p4, p5, p6, p7, p8, p9, p10, p11, p12, p13, p14⟩))
              all_goals (go_wp2_with fail; go_meet; exact ⟨_, _, rfl, rfl, rfl, hr3, b11⟩)
            case rest =>
              obtain ⟨g, cap, rfl, rfl, rfl, hrx, bx⟩ := hcut
              replace hrx := Rg.hid hrx
              clear HL1 HL2 HAp
              go_wp2
              go_loopw [57] (fun vi wr => ∃ i : Nat, i ≤ Z ∧ vi = .int .i64 i ∧ Below wc.heap.size wc wr) (fun vi _ => Z - (intOf vi).toNat)
              case atStart => exact ⟨0, Nat.zero_le _, rfl, Below.refl _ _⟩
              case round =>
                obtain ⟨j, hjn, rfl, hbw⟩ := hrel
                have bj := Rg.chain bx hbw
                obtain ⟨v0, v1, v2, v3, v4, y0, y1, y2, y3, y4, o0, o1, o2, o3, o4⟩ := hf8.out _ bj
                by_cases hlt : j < Z
                · have hjl : j < (xs ++ ys).length := by rw [← hZl.out]; exact hlt
                  have atn : wr.cell? ⟨g, j, none⟩ = some (.string (xs ++ ys)[j]) := by
                    have h1 := (hrx.out.below hbw).some.2.elem hjl
                    rw [Nat.zero_add, show j * strE.m = j by show j * 1 = j; omega] at h1
                    exact str_at h1
                  generalize (xs ++ ys)[j] = n at *
                  have hz0 : (0 : Int) ≤ (j : Int) := by omega
                  have hz1 : (j : Int) < (Z : Int) := by omega
                  have HR1' := Rg.hid (fun W => HR1.out W n)
                  have HR2' := Rg.hid (fun W => HR2.out W n)
                  have hoth' := Rg.hid (hoth.out n)
                  generalize Dsk.read d n = p at *
                  generalize Dsk.read r.1 n = q at *
                  clear hZl hjl hrx HR1 HR2 hf8 hoth kO kO8 hkV hkC hDd hDc hN hok2 hkp hw0
                  go_upto_region 18 with (first
                    | (have hbb := b9'; clear hbb; go_at_call 14; refine (HR2'.out _ b9').mono ?_; rintro e w10 ⟨rfl, b10, b10', t0, t1, t2, t3, t4, t5, t6, t7, t8, t9, t10, t11, t12, t13, t14⟩)
                    | (go_at_call 14; refine (HR1'.out _ bj).mono ?_; rintro e w9 ⟨rfl, b9, b9', z0, z1, z2, z3, z4, z5, z6, z7, z8, z9, z10, z11, z12, z13, z14⟩))
                  have hbe := Rg.hid (Rg.chain (Rg.chain hbw b9) b10)
                  clear z0 z1 z2 z3 z4 z5 z6 z7 z8 z9 z10 z11 z12 z13 z14 v0 v1 v2 v3 v4 y0 y1 y2 y3 y4 o0 o1 o2 o3 o4 t0 t1 t2 t3 t4 t5 t6 t7 t8 t9 b9 b10 b9' b10' bj hbw HR1' HR2' atn
                  by_cases h1 : oN = n
                  · subst h1
                    have d1 : (oN.toList == oN.toList) = true := by simp
                    clear hoth'
                    go_wp2
                    go_roundw
                    case rel => exact ⟨j + 1, by omega, by go_num, hbe.out⟩
                    case measure => simp [intOf]; omega
                  · have d1 : (n.toList == oN.toList) = false := by rw [beq_eq_false_iff_ne]; exact fun e => h1 ((tl_inj _ _).1 e).symm
                    by_cases h2 : oT = n
                    · subst h2
                      have d2 : (oT.toList == oT.toList) = true := by simp
                      clear hoth'
                      go_wp2
                      go_roundw
                      case rel => exact ⟨j + 1, by omega, by go_num, hbe.out⟩
                      case measure => simp [intOf]; omega
                    · have d2 : (n.toList == oT.toList) = false := by rw [beq_eq_false_iff_ne]; exact fun e => h2 ((tl_inj _ _).1 e).symm
                      have hpq := hoth'.out h1 h2
                      subst hpq
                      obtain ⟨qs, qe⟩ := q
                      have d3 : (qs.toList == qs.toList) = true := by simp
                      have d4 : (qe == qe) = true := by simp
                      clear hoth'
                      go_wp2
                      go_roundw
                      case rel => exact ⟨j + 1, by omega, by go_num, hbe.out⟩
                      case measure => simp [intOf]; omega
                · obtain rfl : j = Z := by omega
                  clear v0 v1 v2 v3 v4 y0 y1 y2 y3 y4 o0 o1 o2 o3 o4 hf8 HR1 HR2
                  go_wp2_with (go_at_call 9; refine (HA.out _ (Rg.chain hb8 bj)).mono ?_)
                  rintro e w9 ⟨rfl, b9⟩
                  go_wp2
                  go_ret
                  exact ⟨rfl, b9⟩
end Go.Proofs.Ytlefodpbdjiapaa
