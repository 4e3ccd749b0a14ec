/-
  Layer 8's statement ChatPlays.
-/
import Derived.Test.YteepfifglafjmaaDoorCq6
namespace Go.Proofs.YteepfifglafjmaaDoor
open Go.RowKit

set_option maxHeartbeats 8000000 in
set_option maxRecDepth 100000 in
theorem plays8_walk (a : Option Addr) (c : Nat) (vs : List SV) (xs : List Ch.St) (p : Int) (bI : Option Addr) (cI : Nat) (l : List ByteArray) (w : World) (hr : Row0 stepE w a vs) (hx : ISts w vs xs) (hsm : ∀ x ∈ xs, x.send.size ≤ maxLen) (hrow : Row0 strE w bI l) (hE : Env w) :
    Calls Tryd.prog 4 #[.slice a xs.length c, .int .i64 p, .slice bI l.length cI] w fun e w' => e = .returned (.bool true) ∧ Below w.heap.size w w' := by
  have HA : Hid (∀ W, Below w.heap.size w W → Calls Tryd.prog 7 #[] W fun e w' => e = .returned (.bool true) ∧ Hid (Below w.heap.size w w')) := fun W hW => (awake_any W (hE.below hW)).mono fun e w' ⟨h1, h2⟩ => ⟨h1, Rg.chain hW h2⟩
  have HF0 := far_any a c vs xs w hr hx hsm
  have HX0 := fun W (hW : Below w.heap.size w W) => texts_any bI cI l W (hrow.below hW)
  obtain ⟨M, hM⟩ : ∃ M, M = l.length := ⟨_, rfl⟩
  obtain ⟨T, hT⟩ : ∃ T, T = Ch.tx l := ⟨_, rfl⟩
  rw [← hM, ← hT] at HX0
  rw [← hM]
  have HX : Hid (∀ W, Below w.heap.size w W → Calls Tryd.prog 10 #[.slice bI M cI] W fun e w' => e = .returned (.int .i64 (T : Nat)) ∧ Hid (Below w.heap.size w w')) := fun W hW => (HX0 W hW).mono fun e w' ⟨h1, h2⟩ => ⟨h1, Rg.chain hW h2⟩
  clear HX0
  replace hM := Rg.hid hM
  replace hT := Rg.hid hT
  by_cases hf : Ch.far xs = true
  · rw [hf] at HF0
    have HF : Hid (Calls Tryd.prog 6 #[.slice a xs.length c] w fun e w' => e = .returned (.bool true) ∧ Hid (Below w.heap.size w w')) := HF0
    generalize xs.length = N at *
    clear HF0
    go_enter Tryd.func4, Tryd.ntmps4
    go_wp2_with (first
      | (go_at_call 6; refine HF.out.mono ?_; rintro e w1 ⟨rfl, b1⟩)
      | (go_at_call 10; refine (HX.out _ b1.out).mono ?_; rintro e w2 ⟨rfl, b2⟩)
      | (go_at_call 7; refine (HA.out _ (by first | exact b2.out | exact b1.out)).mono ?_; rintro e w9 ⟨rfl, b9⟩))
    go_ret
    exact ⟨rfl, b9.out⟩
  replace hf : Ch.far xs = false := by simpa using hf
  rw [hf] at HF0
  have hNear := Rg.hid (Ch.near_of hf)
  clear hf
  have HB0 := fun W (hW : Below w.heap.size w W) => (begin_in a c vs xs p W (hE.below hW).max (by have := hNear.out.len; omega) (fun x hx => by have := (hNear.out.wants x hx).1; have := (hNear.out.nudge x hx).1; omega) (fun x hx => by have := hNear.out.send x hx; omega) (hr.below hW) (hx.below hW)).mono fun e w' q => q.ex
  have HC0 := fun W (hW : Below w.heap.size w W) => (rbegin_in a c vs xs p W (by have := hNear.out.len; omega) (fun x hx => by have := (hNear.out.wants x hx).1; have := (hNear.out.nudge x hx).1; omega) (fun x hx => by have := hNear.out.send x hx; omega) (fun x hx s hs => by have := (hNear.out.wants x hx).2 s hs; omega) (hr.below hW) (hx.below hW)).mono fun e w' q => q.ex
  obtain ⟨N, hN⟩ : ∃ N, N = xs.length := ⟨_, rfl⟩
  rw [← hN] at HF0 HB0 HC0 ⊢
  replace hN := Rg.hid hN
  replace HB0 := Rg.hid HB0
  replace HC0 := Rg.hid HC0
  replace hr := Rg.hid hr
  replace hx := Rg.hid hx
  replace hrow := Rg.hid hrow
  replace hE := Rg.hid hE
  replace hsm := Rg.hid hsm
  have HF : Hid (Calls Tryd.prog 6 #[.slice a N c] w fun e w' => e = .returned (.bool false) ∧ Hid (Below w.heap.size w w')) := HF0
  clear HF0
  by_cases h150 : 150 < M
  · have d1 : decide ((150 : Int) < (M : Int)) = true := by simp only [decide_eq_true_eq]; omega
    clear HB0 HC0 h150
    go_enter Tryd.func4, Tryd.ntmps4
    go_wp2_with (first
      | (go_at_call 6; refine HF.out.mono ?_; rintro e w1 ⟨rfl, b1⟩)
      | (go_at_call 10; refine (HX.out _ b1.out).mono ?_; rintro e w2 ⟨rfl, b2⟩)
      | (go_at_call 7; refine (HA.out _ (by first | exact b2.out | exact b1.out)).mono ?_; rintro e w9 ⟨rfl, b9⟩))
    go_ret
    exact ⟨rfl, b9.out⟩
  have d1 : decide ((150 : Int) < (M : Int)) = false := by simp only [decide_eq_false_iff_not]; omega
  by_cases h9 : 9000 < T
  · have d2 : decide ((9000 : Int) < (T : Int)) = true := by simp only [decide_eq_true_eq]; omega
    clear HB0 HC0 h9
    go_enter Tryd.func4, Tryd.ntmps4
    go_wp2_with (first
      | (go_at_call 6; refine HF.out.mono ?_; rintro e w1 ⟨rfl, b1⟩)
      | (go_at_call 10; refine (HX.out _ b1.out).mono ?_; rintro e w2 ⟨rfl, b2⟩)
      | (go_at_call 7; refine (HA.out _ (by first | exact b2.out | exact b1.out)).mono ?_; rintro e w9 ⟨rfl, b9⟩))
    go_ret
    exact ⟨rfl, b9.out⟩
  have d2 : decide ((9000 : Int) < (T : Int)) = false := by simp only [decide_eq_false_iff_not]; omega
  have hsz : Hid (∀ s ∈ l, s.size ≤ 9000) := fun s hs => by
    have := (Ch.tx_lt (l := l) (by rw [← hT.out]; omega)).2 s hs
    rw [← hT.out] at this
    omega
  have hPl0 : Hid (Ch.Pl xs (Ch.begin_ xs p).1) := Ch.begin_pl xs p
  have hNs : Hid (∀ ck : Ch.Co, Ch.Pl xs ck → ck.steps.length ≤ 1000000 ∧ ∀ x ∈ ck.steps, x.wants.length ≤ 1000000 ∧ x.nudge.length ≤ 1000000) := fun ck h => by
    rw [h.pi.steps]
    refine ⟨by have := hNear.out.len; omega, fun x hx => ?_⟩
    have h1 := (hNear.out.wants x hx).1
    have h2 := (hNear.out.nudge x hx).1
    omega
  have HS : Hid (∀ (ck : Ch.Co), Ch.Pl xs ck → ∀ v1 v2 W, Below w.heap.size w W → CAt W v1 ck → CAt W v2 ck → Calls Tryd.prog 13 #[v1, v2] W fun e w' => e = .returned (.bool true) ∧ Below W.heap.size W w') := fun ck h v1 v2 W hW h1 h2 => same_any v1 v2 ck W h1 h2 (hNs.out ck h).1 (hNs.out ck h).2
  have HT : Hid (∀ (ck : Ch.Co), Ch.Pl xs ck → ∀ v W, Below w.heap.size w W → CAt W v ck → Calls Tryd.prog 14 #[v] W fun e w' => GEx W (Ch.tick ck) e w') := fun ck h v W hW h1 => (tick_any v ck W (hE.out.below hW).max (pl_tok hNear.out h) h1).mono fun e w' q => q.ex
  have HFd : Hid (∀ (ck : Ch.Co), Ch.Pl xs ck → ∀ (x : ByteArray), x.data.toList.length ≤ 9000 → ∀ v W, Below w.heap.size w W → CAt W v ck → Calls Tryd.prog 16 #[v, .string x] W fun e w' => GEx W (Ch.feed ck x.data.toList) e w') := fun ck h x hx v W hW h1 => (feed_any v ck x W (hE.out.below hW).max (pl_tok hNear.out h).ok (by have h9 : x.data.toList.length = x.size := rfl; omega) h1).mono fun e w' q => q.ex
  have HRT : Hid (∀ (ck : Ch.Co), Ch.Pl xs ck → ∀ v W, Below w.heap.size w W → CAt W v ck → Calls Tryd.prog 15 #[v] W fun e w' => GEx W (Ch.tick ck) e w') := fun ck h v W hW h1 => (rtick_any v ck W hNear.out h h1).mono fun e w' q => q.ex
  have HRF : Hid (∀ (ck : Ch.Co), Ch.Pl xs ck → ∀ (x : ByteArray), x.data.toList.length ≤ 9000 → ∀ v W, Below w.heap.size w W → CAt W v ck → Calls Tryd.prog 17 #[v, .string x] W fun e w' => GEx W (Ch.feed ck x.data.toList) e w') := fun ck h x hx v W hW h1 => (rfeed_any v ck x W hNear.out h (by have h9 : x.data.toList.length = x.size := rfl; omega) h1).mono fun e w' q => q.ex
  have hM150 : M ≤ 150 := by omega
  clear hNs hr hx hsm hE h150 h9 hN
  generalize Ch.begin_ xs p = r0 at *
  unfold GEx at HB0 HC0
  go_enter Tryd.func4, Tryd.ntmps4
  go_upto_region 3 with (first
    | (go_at_call 6; refine HF.out.mono ?_; rintro e w1 ⟨rfl, b1⟩)
    | (go_at_call 10; refine (HX.out _ b1.out).mono ?_; rintro e w2 ⟨rfl, b2⟩))
  clear HF HX d1 d2 b1 hT
  go_upto_region 4 with (go_at_call 11; refine (HB0.out _ b2.out).mono ?_; rintro e w3 ⟨sa', sn', sc', step', want', seen', wait', pat', over', failed', rfl, cA3, b3⟩)
  have kA4 : Hid (Rg.Bk w3.heap.size [.slice sa' sn' sc', .int .i64 step', .int .i64 want', .string seen', .int .i64 wait', .int .i64 pat', .bool over', .bool failed'] 31 (w3.alloc (.cells #[.slice sa' sn' sc', .int .i64 step', .int .i64 want', .string seen', .int .i64 wait', .int .i64 pat', .bool over', .bool failed'] 31))) := Rg.Bk.new rfl
  have cA4 := Rg.hid (cA3.below (Rg.al1 w3 (.cells #[.slice sa' sn' sc', .int .i64 step', .int .i64 want', .string seen', .int .i64 wait', .int .i64 pat', .bool over', .bool failed'] 31)))
  have hb3 := Rg.chain b2.out b3
  have hb4 := Rg.hid (Rg.chain hb3 (Rg.al1 w3 (.cells #[.slice sa' sn' sc', .int .i64 step', .int .i64 want', .string seen', .int .i64 wait', .int .i64 pat', .bool over', .bool failed'] 31)))
  clear HB0 cA3 b2 b3
  generalize (w3.alloc (.cells #[.slice sa' sn' sc', .int .i64 step', .int .i64 want', .string seen', .int .i64 wait', .int .i64 pat', .bool over', .bool failed'] 31)) = w4 at *
  obtain ⟨A, hA⟩ : ∃ A, A = w3.heap.size := ⟨_, rfl⟩
  rw [← hA] at kA4 ⊢
  have hAw : w.heap.size ≤ A := by rw [hA]; exact hb3.size
  clear hA hb3
  go_upto_region 5 with (go_at_call 12; refine (HC0.out _ hb4.out).mono ?_; rintro e w5 ⟨sa9, sn9, sc9, step9, want9, seen9, wait9, pat9, over9, failed9, rfl, cB5, b5⟩)
  have kB6 : Rg.Bk w5.heap.size [.slice sa9 sn9 sc9, .int .i64 step9, .int .i64 want9, .string seen9, .int .i64 wait9, .int .i64 pat9, .bool over9, .bool failed9] 31 (w5.alloc (.cells #[.slice sa9 sn9 sc9, .int .i64 step9, .int .i64 want9, .string seen9, .int .i64 wait9, .int .i64 pat9, .bool over9, .bool failed9] 31)) := Rg.Bk.new rfl
  have cB6 := cB5.below (Rg.al1 w5 (.cells #[.slice sa9 sn9 sc9, .int .i64 step9, .int .i64 want9, .string seen9, .int .i64 wait9, .int .i64 pat9, .bool over9, .bool failed9] 31))
  have b56 := Rg.chain b5 (Rg.al1 w5 (.cells #[.slice sa9 sn9 sc9, .int .i64 step9, .int .i64 want9, .string seen9, .int .i64 wait9, .int .i64 pat9, .bool over9, .bool failed9] 31))
  have hAB0 : A ≠ w5.heap.size := by have h1 := kA4.out.lt; have h2 := b5.size; omega
  have hP6 : Hid (PAt w A w5.heap.size r0.1 (w5.alloc (.cells #[.slice sa9 sn9 sc9, .int .i64 step9, .int .i64 want9, .string seen9, .int .i64 wait9, .int .i64 pat9, .bool over9, .bool failed9] 31))) := ⟨Rg.chain hb4.out b56, ⟨hAw, by have h1 := (Rg.chain hb4.out b5).size; exact h1, hAB0⟩, ⟨_, kA4.out.below b56 kA4.out.lt, cA4.out.below b56⟩, ⟨_, kB6, cB6⟩⟩
  clear HC0 cB5 b5 kB6 cB6 b56 hAB0 kA4 cA4 hb4 hAw
  generalize (w5.alloc (.cells #[.slice sa9 sn9 sc9, .int .i64 step9, .int .i64 want9, .string seen9, .int .i64 wait9, .int .i64 pat9, .bool over9, .bool failed9] 31)) = w6 at *
  obtain ⟨B, hB⟩ : ∃ B, B = w5.heap.size := ⟨_, rfl⟩
  rw [← hB] at hP6 ⊢
  clear hB
  go_wp2
  go_loopw [8, 10, 40] (fun vs8 vt8 vi wr => ∃ (i : Nat) (ck : Ch.Co) (out : List UInt8), i ≤ M ∧ vi = .int .i64 i ∧ vs8 = .string ⟨out.toArray⟩ ∧ vt8 = .string ⟨out.toArray⟩ ∧ Hid (PAt w A B ck wr) ∧ Hid (Ch.Pl xs ck)) (fun _ _ vi _ => M - (intOf vi).toNat)
  case atStart => exact ⟨0, r0.1, r0.2, Nat.zero_le _, rfl, rfl, rfl, hP6, hPl0⟩
  case round =>
    clear hP6 hPl0
    obtain ⟨i, ck, out, hin, rfl, rfl, rfl, hP, hPl⟩ := hrel
    obtain ⟨hAw, hBw, hAB⟩ := hP.out.low
    have hbw := Rg.hid hP.out.bel
    obtain ⟨sa1, sc1, sa2, sc2, sn, cstep, cwant, cseen, cwait, cpat, cover, cfailed, kA, cA, kB, cB⟩ := hP.out.ex
    replace kA := Rg.hid kA
    replace kB := Rg.hid kB
    replace cA := Rg.hid cA
    replace cB := Rg.hid cB
    have HSs := Rg.hid (HS.out ck hPl.out _ _ wr hbw.out cA.out cB.out)
    clear hP
    generalize (⟨out.toArray⟩ : ByteArray) = X at *
    have u0 : wr.cell? ⟨A, 0, none⟩ = some (.slice sa1 sn sc1) := kA.out.cell 0
    have u1 : wr.cell? ⟨A, 1, none⟩ = some (.int .i64 cstep) := kA.out.cell 1
    have u2 : wr.cell? ⟨A, 2, none⟩ = some (.int .i64 cwant) := kA.out.cell 2
    have u3 : wr.cell? ⟨A, 3, none⟩ = some (.string cseen) := kA.out.cell 3
    have u4 : wr.cell? ⟨A, 4, none⟩ = some (.int .i64 cwait) := kA.out.cell 4
    have u5 : wr.cell? ⟨A, 5, none⟩ = some (.int .i64 cpat) := kA.out.cell 5
    have u6 : wr.cell? ⟨A, 6, none⟩ = some (.bool cover) := kA.out.cell 6
    have u7 : wr.cell? ⟨A, 7, none⟩ = some (.bool cfailed) := kA.out.cell 7
    have v0 : wr.cell? ⟨B, 0, none⟩ = some (.slice sa2 sn sc2) := kB.out.cell 0
    have v1 : wr.cell? ⟨B, 1, none⟩ = some (.int .i64 cstep) := kB.out.cell 1
    have v2 : wr.cell? ⟨B, 2, none⟩ = some (.int .i64 cwant) := kB.out.cell 2
    have v3 : wr.cell? ⟨B, 3, none⟩ = some (.string cseen) := kB.out.cell 3
    have v4 : wr.cell? ⟨B, 4, none⟩ = some (.int .i64 cwait) := kB.out.cell 4
    have v5 : wr.cell? ⟨B, 5, none⟩ = some (.int .i64 cpat) := kB.out.cell 5
    have v6 : wr.cell? ⟨B, 6, none⟩ = some (.bool cover) := kB.out.cell 6
    have v7 : wr.cell? ⟨B, 7, none⟩ = some (.bool cfailed) := kB.out.cell 7
    by_cases hlt : i < M
    · have hil : i < l.length := by rw [← hM.out]; exact hlt
      obtain ⟨gI, oI, rfl⟩ := row_place (hrow.out.row hil) hil
      have eI : wr.cell? ⟨gI, oI + i, none⟩ = some (.string l[i]) := by
        have h1 := ((hrow.out.row hil).below hbw.out).some.2.elem (E := strE) hil
        have h2 := h1 0 _ rfl
        rw [show strE.m = 1 from rfl, Nat.mul_one, Nat.add_zero] at h2
        exact h2
      have hxs : l[i].data.toList.length ≤ 9000 := hsz.out l[i] (List.getElem_mem hil)
      have hz0 : (0 : Int) ≤ (i : Int) := by omega
      have hz1 : (i : Int) < (M : Int) := by omega
      generalize l[i] = x at *
      clear hil
      go_upto_region 10 with (go_at_call 13; refine HSs.out.mono ?_; rintro e wS ⟨rfl, bS⟩)
      clear eI hz0 hz1 HSs HS cA u0 v0 u1 v1 u2 v2 u3 v3 u4 v4 u5 v5 u6 v6 u7 v7
      have cA : Hid True := trivial
      have u0 : wS.cell? ⟨A, 0, none⟩ = some (.slice sa1 sn sc1) := (kA.out.below bS kA.out.lt).cell 0
      have u1 : wS.cell? ⟨A, 1, none⟩ = some (.int .i64 cstep) := (kA.out.below bS kA.out.lt).cell 1
      have u2 : wS.cell? ⟨A, 2, none⟩ = some (.int .i64 cwant) := (kA.out.below bS kA.out.lt).cell 2
      have u3 : wS.cell? ⟨A, 3, none⟩ = some (.string cseen) := (kA.out.below bS kA.out.lt).cell 3
      have u4 : wS.cell? ⟨A, 4, none⟩ = some (.int .i64 cwait) := (kA.out.below bS kA.out.lt).cell 4
      have u5 : wS.cell? ⟨A, 5, none⟩ = some (.int .i64 cpat) := (kA.out.below bS kA.out.lt).cell 5
      have u6 : wS.cell? ⟨A, 6, none⟩ = some (.bool cover) := (kA.out.below bS kA.out.lt).cell 6
      have u7 : wS.cell? ⟨A, 7, none⟩ = some (.bool cfailed) := (kA.out.below bS kA.out.lt).cell 7
      have v0 : wS.cell? ⟨B, 0, none⟩ = some (.slice sa2 sn sc2) := (kB.out.below bS kB.out.lt).cell 0
      have v1 : wS.cell? ⟨B, 1, none⟩ = some (.int .i64 cstep) := (kB.out.below bS kB.out.lt).cell 1
      have v2 : wS.cell? ⟨B, 2, none⟩ = some (.int .i64 cwant) := (kB.out.below bS kB.out.lt).cell 2
      have v3 : wS.cell? ⟨B, 3, none⟩ = some (.string cseen) := (kB.out.below bS kB.out.lt).cell 3
      have v4 : wS.cell? ⟨B, 4, none⟩ = some (.int .i64 cwait) := (kB.out.below bS kB.out.lt).cell 4
      have v5 : wS.cell? ⟨B, 5, none⟩ = some (.int .i64 cpat) := (kB.out.below bS kB.out.lt).cell 5
      have v6 : wS.cell? ⟨B, 6, none⟩ = some (.bool cover) := (kB.out.below bS kB.out.lt).cell 6
      have v7 : wS.cell? ⟨B, 7, none⟩ = some (.bool cfailed) := (kB.out.below bS kB.out.lt).cell 7
      by_cases hx0 : x.data.toList = []
      · have dx : (x.toList == []) = true := by rw [tl_eq]; exact beq_iff_eq.2 hx0
        clear hx0 hxs
        have HP := HT.out ck hPl.out
        have HR := HRT.out ck hPl.out
        have hPl2 := Rg.hid (Ch.tick_pl hNear.out hPl.out)
        clear hPl HT HFd HRT HRF
        generalize Ch.tick ck = rr at *
        unfold GEx at HP HR
        replace HP := Rg.hid HP
        replace HR := Rg.hid HR
        go_upto_region 12 with (go_at_call 14; refine (HP.out _ _ (Rg.chain hbw.out bS) (cB.out.below bS)).mono ?_; rintro e w3 ⟨sa', sn', sc', step', want', seen', wait', pat', over', failed', rfl, cP3, b3⟩; have kA3 := ((kA.out.below bS kA.out.lt).below b3 (kA.out.below bS kA.out.lt).lt); have af := kA3.thaw; have y0 : w3.cell? ⟨A, 0, none⟩ = some (.slice sa1 sn sc1) := kA3.cell 0; have y1 : w3.cell? ⟨A, 1, none⟩ = some (.int .i64 cstep) := kA3.cell 1; have y2 : w3.cell? ⟨A, 2, none⟩ = some (.int .i64 cwant) := kA3.cell 2; have y3 : w3.cell? ⟨A, 3, none⟩ = some (.string cseen) := kA3.cell 3; have y4 : w3.cell? ⟨A, 4, none⟩ = some (.int .i64 cwait) := kA3.cell 4; have y5 : w3.cell? ⟨A, 5, none⟩ = some (.int .i64 cpat) := kA3.cell 5; have y6 : w3.cell? ⟨A, 6, none⟩ = some (.bool cover) := kA3.cell 6; have y7 : w3.cell? ⟨A, 7, none⟩ = some (.bool cfailed) := kA3.cell 7)
        have bS3 := Rg.chain bS b3
        obtain ⟨k4, o4⟩ := ret8 kA3 rfl (.slice sa' sn' sc') (.int .i64 step') (.int .i64 want') (.string seen') (.int .i64 wait') (.int .i64 pat') (.bool over') (.bool failed')
        have cP4 := Rg.hid (cP3.only kA3 o4)
        have kB4 := Rg.hid ((kB.out.below bS3 kB.out.lt).same (o4.block B (Ne.symm hAB)))
        have cB4 := Rg.hid ((cB.out.below bS3).only kA3 o4)
        have hb4 := Rg.hid ((Rg.chain hbw.out bS3).trans (o4.bel hAw))
        replace k4 := Rg.hid k4
        clear cP3 b3 kA3 af y0 y1 y2 y3 y4 y5 y6 y7 o4 kA cA kB cB bS bS3 HP hbw u0 v0 u1 v1 u2 v2 u3 v3 u4 v4 u5 v5 u6 v6 u7 v7
        generalize World.setCell _ _ _ = w4 at *
        have v0 : w4.cell? ⟨B, 0, none⟩ = some (.slice sa2 sn sc2) := kB4.out.cell 0
        have v1 : w4.cell? ⟨B, 1, none⟩ = some (.int .i64 cstep) := kB4.out.cell 1
        have v2 : w4.cell? ⟨B, 2, none⟩ = some (.int .i64 cwant) := kB4.out.cell 2
        have v3 : w4.cell? ⟨B, 3, none⟩ = some (.string cseen) := kB4.out.cell 3
        have v4 : w4.cell? ⟨B, 4, none⟩ = some (.int .i64 cwait) := kB4.out.cell 4
        have v5 : w4.cell? ⟨B, 5, none⟩ = some (.int .i64 cpat) := kB4.out.cell 5
        have v6 : w4.cell? ⟨B, 6, none⟩ = some (.bool cover) := kB4.out.cell 6
        have v7 : w4.cell? ⟨B, 7, none⟩ = some (.bool cfailed) := kB4.out.cell 7
        go_upto_region 15 with (go_at_call 15; refine (HR.out _ _ hb4.out cB4.out).mono ?_; rintro e w5 ⟨sa9, sn9, sc9, step9, want9, seen9, wait9, pat9, over9, failed9, rfl, cQ5, b5⟩; have kB5 := kB4.out.below b5 kB4.out.lt; have bf := kB5.thaw; have y0 : w5.cell? ⟨B, 0, none⟩ = some (.slice sa2 sn sc2) := kB5.cell 0; have y1 : w5.cell? ⟨B, 1, none⟩ = some (.int .i64 cstep) := kB5.cell 1; have y2 : w5.cell? ⟨B, 2, none⟩ = some (.int .i64 cwant) := kB5.cell 2; have y3 : w5.cell? ⟨B, 3, none⟩ = some (.string cseen) := kB5.cell 3; have y4 : w5.cell? ⟨B, 4, none⟩ = some (.int .i64 cwait) := kB5.cell 4; have y5 : w5.cell? ⟨B, 5, none⟩ = some (.int .i64 cpat) := kB5.cell 5; have y6 : w5.cell? ⟨B, 6, none⟩ = some (.bool cover) := kB5.cell 6; have y7 : w5.cell? ⟨B, 7, none⟩ = some (.bool cfailed) := kB5.cell 7)
        obtain ⟨k6, o6⟩ := ret8 kB5 rfl (.slice sa9 sn9 sc9) (.int .i64 step9) (.int .i64 want9) (.string seen9) (.int .i64 wait9) (.int .i64 pat9) (.bool over9) (.bool failed9)
        have hP6 : Hid (PAt w A B rr.1 _) := ⟨(Rg.chain hb4.out b5).trans (o6.bel hBw), ⟨hAw, hBw, hAB⟩, ⟨_, (k4.out.below b5 k4.out.lt).same (o6.block A hAB), (cP4.out.below b5).only kB5 o6⟩, ⟨_, k6, cQ5.only kB5 o6⟩⟩
        clear cQ5 b5 kB5 bf y0 y1 y2 y3 y4 y5 y6 y7 o6 k6 k4 cP4 kB4 cB4 hb4 HR v0 v1 v2 v3 v4 v5 v6 v7
        generalize World.setCell _ _ _ = w6 at *
        go_wp2
        go_roundw
        case rel => exact ⟨i + 1, rr.1, rr.2, by omega, by go_num, rfl, rfl, hP6, hPl2⟩
        case measure => simp [intOf]; omega
      · have dx : (x.toList == []) = false := by rw [tl_eq]; exact beq_eq_false_iff_ne.2 hx0
        clear hx0
        have HP := HFd.out ck hPl.out
        have HR := HRF.out ck hPl.out
        replace HP := HP x hxs
        replace HR := HR x hxs
        have hPl2 := Rg.hid (Ch.feed_pl hPl.out x.data.toList hxs)
        clear hPl HT HFd HRT HRF
        generalize Ch.feed ck x.data.toList = rr at *
        unfold GEx at HP HR
        replace HP := Rg.hid HP
        replace HR := Rg.hid HR
        go_upto_region 14 with (go_at_call 16; refine (HP.out _ _ (Rg.chain hbw.out bS) (cB.out.below bS)).mono ?_; rintro e w3 ⟨sa', sn', sc', step', want', seen', wait', pat', over', failed', rfl, cP3, b3⟩; have kA3 := ((kA.out.below bS kA.out.lt).below b3 (kA.out.below bS kA.out.lt).lt); have af := kA3.thaw; have y0 : w3.cell? ⟨A, 0, none⟩ = some (.slice sa1 sn sc1) := kA3.cell 0; have y1 : w3.cell? ⟨A, 1, none⟩ = some (.int .i64 cstep) := kA3.cell 1; have y2 : w3.cell? ⟨A, 2, none⟩ = some (.int .i64 cwant) := kA3.cell 2; have y3 : w3.cell? ⟨A, 3, none⟩ = some (.string cseen) := kA3.cell 3; have y4 : w3.cell? ⟨A, 4, none⟩ = some (.int .i64 cwait) := kA3.cell 4; have y5 : w3.cell? ⟨A, 5, none⟩ = some (.int .i64 cpat) := kA3.cell 5; have y6 : w3.cell? ⟨A, 6, none⟩ = some (.bool cover) := kA3.cell 6; have y7 : w3.cell? ⟨A, 7, none⟩ = some (.bool cfailed) := kA3.cell 7)
        have bS3 := Rg.chain bS b3
        obtain ⟨k4, o4⟩ := ret8 kA3 rfl (.slice sa' sn' sc') (.int .i64 step') (.int .i64 want') (.string seen') (.int .i64 wait') (.int .i64 pat') (.bool over') (.bool failed')
        have cP4 := Rg.hid (cP3.only kA3 o4)
        have kB4 := Rg.hid ((kB.out.below bS3 kB.out.lt).same (o4.block B (Ne.symm hAB)))
        have cB4 := Rg.hid ((cB.out.below bS3).only kA3 o4)
        have hb4 := Rg.hid ((Rg.chain hbw.out bS3).trans (o4.bel hAw))
        replace k4 := Rg.hid k4
        clear cP3 b3 kA3 af y0 y1 y2 y3 y4 y5 y6 y7 o4 kA cA kB cB bS bS3 HP hbw u0 v0 u1 v1 u2 v2 u3 v3 u4 v4 u5 v5 u6 v6 u7 v7
        generalize World.setCell _ _ _ = w4 at *
        have v0 : w4.cell? ⟨B, 0, none⟩ = some (.slice sa2 sn sc2) := kB4.out.cell 0
        have v1 : w4.cell? ⟨B, 1, none⟩ = some (.int .i64 cstep) := kB4.out.cell 1
        have v2 : w4.cell? ⟨B, 2, none⟩ = some (.int .i64 cwant) := kB4.out.cell 2
        have v3 : w4.cell? ⟨B, 3, none⟩ = some (.string cseen) := kB4.out.cell 3
        have v4 : w4.cell? ⟨B, 4, none⟩ = some (.int .i64 cwait) := kB4.out.cell 4
        have v5 : w4.cell? ⟨B, 5, none⟩ = some (.int .i64 cpat) := kB4.out.cell 5
        have v6 : w4.cell? ⟨B, 6, none⟩ = some (.bool cover) := kB4.out.cell 6
        have v7 : w4.cell? ⟨B, 7, none⟩ = some (.bool cfailed) := kB4.out.cell 7
        go_upto_region 15 with (go_at_call 17; refine (HR.out _ _ hb4.out cB4.out).mono ?_; rintro e w5 ⟨sa9, sn9, sc9, step9, want9, seen9, wait9, pat9, over9, failed9, rfl, cQ5, b5⟩; have kB5 := kB4.out.below b5 kB4.out.lt; have bf := kB5.thaw; have y0 : w5.cell? ⟨B, 0, none⟩ = some (.slice sa2 sn sc2) := kB5.cell 0; have y1 : w5.cell? ⟨B, 1, none⟩ = some (.int .i64 cstep) := kB5.cell 1; have y2 : w5.cell? ⟨B, 2, none⟩ = some (.int .i64 cwant) := kB5.cell 2; have y3 : w5.cell? ⟨B, 3, none⟩ = some (.string cseen) := kB5.cell 3; have y4 : w5.cell? ⟨B, 4, none⟩ = some (.int .i64 cwait) := kB5.cell 4; have y5 : w5.cell? ⟨B, 5, none⟩ = some (.int .i64 cpat) := kB5.cell 5; have y6 : w5.cell? ⟨B, 6, none⟩ = some (.bool cover) := kB5.cell 6; have y7 : w5.cell? ⟨B, 7, none⟩ = some (.bool cfailed) := kB5.cell 7)
        obtain ⟨k6, o6⟩ := ret8 kB5 rfl (.slice sa9 sn9 sc9) (.int .i64 step9) (.int .i64 want9) (.string seen9) (.int .i64 wait9) (.int .i64 pat9) (.bool over9) (.bool failed9)
        have hP6 : Hid (PAt w A B rr.1 _) := ⟨(Rg.chain hb4.out b5).trans (o6.bel hBw), ⟨hAw, hBw, hAB⟩, ⟨_, (k4.out.below b5 k4.out.lt).same (o6.block A hAB), (cP4.out.below b5).only kB5 o6⟩, ⟨_, k6, cQ5.only kB5 o6⟩⟩
        clear cQ5 b5 kB5 bf y0 y1 y2 y3 y4 y5 y6 y7 o6 k6 k4 cP4 kB4 cB4 hb4 HR v0 v1 v2 v3 v4 v5 v6 v7
        generalize World.setCell _ _ _ = w6 at *
        go_wp2
        go_roundw
        case rel => exact ⟨i + 1, rr.1, rr.2, by omega, by go_num, rfl, rfl, hP6, hPl2⟩
        case measure => simp [intOf]; omega
    · go_wp2_with (first
        | (go_at_call 13; refine HSs.out.mono ?_; rintro e wS ⟨rfl, bS⟩)
        | (go_at_call 7; refine (HA.out _ (Rg.chain hbw.out bS)).mono ?_; rintro e w9 ⟨rfl, b9⟩))
      go_ret
      exact ⟨rfl, b9.out⟩
end Go.Proofs.YteepfifglafjmaaDoor
