/-
  Layer 8: the statements' far.
-/
import Derived.Test.YtpggnhnpphbaeaaDoorCh24
namespace Go.Proofs.YtpggnhnpphbaeaaDoor
open Go.RowKit

theorem irow_cells {W : World} {b o : Nat} {vs : List SV} (h : stepE.Row W (some ⟨b, o, none⟩) vs) {i : Nat} (hi : i < vs.length) : W.cell? ⟨b, o + i * 3, none⟩ = some (.slice vs[i].a vs[i].n vs[i].c) ∧ W.cell? ⟨b, o + i * 3 + 1, none⟩ = some (.slice vs[i].b vs[i].m vs[i].d) ∧ W.cell? ⟨b, o + i * 3 + 2, none⟩ = some (.string vs[i].s) :=
  ⟨(h.some.2.elem hi) 0 _ rfl, (h.some.2.elem hi) 1 _ rfl, (h.some.2.elem hi) 2 _ rfl⟩

set_option maxHeartbeats 2000000 in
set_option maxRecDepth 100000 in
theorem far_any (a : Option Addr) (c : Nat) (vs : List SV) (xs : List Ch.St) (w : World) (hr : Row0 stepE w a vs) (hx : ISts w vs xs) (hsm : ∀ x ∈ xs, x.send.size ≤ maxLen) :
    Calls Tryd.prog 4 #[.slice a xs.length c] w fun e w' => e = .returned (.bool (Ch.far xs)) ∧ Below w.heap.size w w' := by
  obtain ⟨N, hN⟩ : ∃ N, N = xs.length := ⟨_, rfl⟩
  unfold Ch.far
  rw [← hN]
  by_cases h6 : 60 < N
  · have d0 : decide ((60 : Int) < (N : Int)) = true := by simp only [decide_eq_true_eq]; omega
    rw [show decide (60 < N) = true by simp only [decide_eq_true_eq]; exact h6, Bool.true_or]
    clear hr hN hx hsm
    go_enter Tryd.func4, Tryd.ntmps4
    go_wp2
    go_ret
    exact ⟨rfl, Below.refl _ _⟩
  have d0 : decide ((60 : Int) < (N : Int)) = false := by simp only [decide_eq_false_iff_not]; omega
  rw [show decide (60 < N) = false by simp only [decide_eq_false_iff_not]; exact h6, Bool.false_or]
  obtain ⟨T, hT⟩ : ∃ T, Ch.frg xs 0 = T := ⟨_, rfl⟩
  rw [hT]
  replace hN := Rg.hid hN
  replace hr := Rg.hid hr
  replace hx := Rg.hid hx
  replace hT := Rg.hid hT
  replace hsm := Rg.hid hsm
  go_enter Tryd.func4, Tryd.ntmps4
  go_wp2
  go_loopw [3, 11] (fun vn vi wr => ∃ (i n : Nat), i ≤ N ∧ vi = .int .i64 i ∧ vn = .int .i64 n ∧ n ≤ i * 2700000 ∧ Hid (Ch.frg (xs.drop i) n = T) ∧ Below w.heap.size w wr) (fun _ vi _ => N - (intOf vi).toNat)
  case atStart => exact ⟨0, 0, Nat.zero_le _, rfl, rfl, Nat.zero_le _, hT, Below.refl _ _⟩
  case round =>
    obtain ⟨i, n, hin, rfl, rfl, hni, hG, hbw⟩ := hrel
    clear hT
    by_cases hlt : i < N
    · have hil : i < xs.length := by rw [← hN.out]; exact hlt
      have hiv : i < vs.length := by rw [hx.out.1]; exact hil
      obtain ⟨b1, o1, rfl⟩ := row_place (hr.out.row hiv) hiv
      obtain ⟨e0, e1, e2⟩ := irow_cells ((hr.out.row hiv).below hbw) hiv
      have hst := (hx.out.2 i hiv hil).below hbw
      have hz0 : (0 : Int) ≤ (i : Int) := by omega
      have hz1 : (i : Int) < (N : Int) := by omega
      have hG2 := hG.out
      rw [List.drop_eq_getElem_cons hil, Ch.frg] at hG2
      have hss := hsm.out xs[i] (List.getElem_mem hil)
      generalize xs[i] = x at *
      obtain ⟨sv, hsv⟩ : ∃ sv, vs[i] = sv := ⟨_, rfl⟩
      rw [hsv] at e0 e1 e2 hst
      clear hsv hG
      obtain ⟨wa, wn, wcp, na, nn, ncp, ss⟩ := sv
      dsimp only at e0 e1 e2
      have hs' : ss = x.send := hst.s
      have HT1 : Hid (∀ W, Below wr.heap.size wr W → Calls Tryd.prog 9 #[.slice wa wn wcp] W fun e w' => e = .returned (.int .i64 (Ch.tx x.wants : Nat)) ∧ Below W.heap.size W w') := fun W hW => by
        have h1 : wn = x.wants.length := hst.n
        rw [h1]
        exact texts_any wa wcp x.wants W ((hst.below hW).wants)
      have HT2 : Hid (∀ W, Below wr.heap.size wr W → Calls Tryd.prog 9 #[.slice na nn ncp] W fun e w' => e = .returned (.int .i64 (Ch.tx x.nudge : Nat)) ∧ Below W.heap.size W w') := fun W hW => by
        have h1 : nn = x.nudge.length := hst.m
        rw [h1]
        exact texts_any na ncp x.nudge W ((hst.below hW).nudge)
      have t1 := Ch.tx_le x.wants
      have t2 := Ch.tx_le x.nudge
      rw [← hs'] at hG2 hss
      generalize Ch.tx x.wants = k1 at *
      generalize Ch.tx x.nudge = k2 at *
      clear hst hs'
      have kX : Rg.Bk wr.heap.size [.slice wa wn wcp, .slice na nn ncp, .string ss] 28 (wr.alloc (.cells #[.slice wa wn wcp, .slice na nn ncp, .string ss] 28)) := Rg.Bk.new rfl
      have bX := Rg.al1 wr (.cells #[.slice wa wn wcp, .slice na nn ncp, .string ss] 28)
      go_upto_region 7 with fail
      clear e0 e1 e2
      have hbX := Rg.chain hbw bX
      generalize World.alloc _ _ = w1 at *
      obtain ⟨X, hX⟩ : ∃ X, X = wr.heap.size := ⟨_, rfl⟩
      rw [← hX] at kX ⊢
      clear hX
      obtain ⟨z, hz⟩ : ∃ z, min ss.size 100000 = z := ⟨_, rfl⟩
      have hz' : min (ss.size : Int) 100000 = (z : Int) := by omega
      have hzb : z ≤ 100000 := by omega
      have hzI : (if (ss.size : Int) ≤ 100000 then (ss.size : Int) else 100000) = (z : Int) := by split <;> omega
      rw [hz] at hG2
      replace hG2 := Rg.hid hG2
      obtain ⟨s1, hs1⟩ : ∃ s1, k1 + k2 = s1 := ⟨_, rfl⟩
      obtain ⟨s2, hs2⟩ : ∃ s2, s1 + z = s2 := ⟨_, rfl⟩
      obtain ⟨s3, hs3⟩ : ∃ s3, n + s2 = s3 := ⟨_, rfl⟩
      have q1 : IntKind.i64.wrap ((k1 : Int) + (k2 : Int)) = (s1 : Int) := by rw [show (k1 : Int) + (k2 : Int) = (s1 : Int) by omega, IntKind.wrap_i64]; omega
      have q2 : IntKind.i64.wrap ((s1 : Int) + (z : Int)) = (s2 : Int) := by rw [show (s1 : Int) + (z : Int) = (s2 : Int) by omega, IntKind.wrap_i64]; omega
      have q3 : IntKind.i64.wrap ((n : Int) + (s2 : Int)) = (s3 : Int) := by rw [show (n : Int) + (s2 : Int) = (s3 : Int) by omega, IntKind.wrap_i64]; omega
      have HU1 : Hid (∀ W, Below w1.heap.size w1 W → Calls Tryd.prog 9 #[.slice wa wn wcp] W fun e w' => e = .returned (.int .i64 (k1 : Int)) ∧ Below w1.heap.size w1 w' ∧ w'.cell? ⟨X, 0, none⟩ = some (.slice wa wn wcp) ∧ w'.cell? ⟨X, 1, none⟩ = some (.slice na nn ncp) ∧ w'.cell? ⟨X, 2, none⟩ = some (.string ss)) := fun W hW => (HT1.out W (Rg.chain bX hW)).mono fun e w' ⟨h1, h2⟩ => ⟨h1, Rg.chain hW h2, (kX.below (Rg.chain hW h2) kX.lt).cell 0, (kX.below (Rg.chain hW h2) kX.lt).cell 1, (kX.below (Rg.chain hW h2) kX.lt).cell 2⟩
      have HU2 : Hid (∀ W, Below w1.heap.size w1 W → Calls Tryd.prog 9 #[.slice na nn ncp] W fun e w' => e = .returned (.int .i64 (k2 : Int)) ∧ Below w1.heap.size w1 w' ∧ w'.cell? ⟨X, 0, none⟩ = some (.slice wa wn wcp) ∧ w'.cell? ⟨X, 1, none⟩ = some (.slice na nn ncp) ∧ w'.cell? ⟨X, 2, none⟩ = some (.string ss)) := fun W hW => (HT2.out W (Rg.chain bX hW)).mono fun e w' ⟨h1, h2⟩ => ⟨h1, Rg.chain hW h2, (kX.below (Rg.chain hW h2) kX.lt).cell 0, (kX.below (Rg.chain hW h2) kX.lt).cell 1, (kX.below (Rg.chain hW h2) kX.lt).cell 2⟩
      have x0 : w1.cell? ⟨X, 0, none⟩ = some (.slice wa wn wcp) := kX.cell 0
      have x1 : w1.cell? ⟨X, 1, none⟩ = some (.slice na nn ncp) := kX.cell 1
      have x2 : w1.cell? ⟨X, 2, none⟩ = some (.string ss) := kX.cell 2
      have hs3b : s3 ≤ (i + 1) * 2700000 := by omega
      have hG3 : Hid (Ch.frg (xs.drop (i + 1)) s3 = T) := by show _ = _; rw [← hs3, ← hs2, ← hs1]; exact hG2.out
      replace hbX := Rg.hid hbX
      clear HT1 HT2 kX bX hs1 hs2 hs3 t1 t2 hG2 hbw hni hz hss
      go_region_held3 (fun w' => w'.cell? ⟨X, 0, none⟩ = some (.slice wa wn wcp) ∧ w'.cell? ⟨X, 1, none⟩ = some (.slice na nn ncp) ∧ w'.cell? ⟨X, 2, none⟩ = some (.string ss)) (go_keep) (first
        | (go_at_call 9; with_reducible refine (HU1.out _ ?_).mono ?_; (first | exact bW | exact bW.drew | exact Below.refl _ _ | exact (Below.refl _ _).drew); rintro e w8 ⟨rfl, bW, p0, p1, p2⟩)
        | (go_at_call 9; with_reducible refine (HU2.out _ ?_).mono ?_; (first | exact bW | exact bW.drew | exact Below.refl _ _ | exact (Below.refl _ _).drew); rintro e w9 ⟨rfl, bW, r0, r1, r2⟩))
      all_goals
        have hbE := Rg.hid (Rg.chain hbX.out bW)
        clear x0 x1 x2 HU1 HU2 p0 p1 p2 r0 r1 r2
        go_wp2
        go_roundw
        case rel => exact ⟨i + 1, s3, by omega, by go_num, (by first | rfl | simp), hs3b, hG3, (by first | exact hbE.out | exact hbE.out.drew)⟩
        case measure => simp [intOf]; omega
    · obtain rfl : i = N := by omega
      have hG2 := hG.out
      rw [List.drop_eq_nil_of_le (by rw [← hN.out]; exact Nat.le_refl _), Ch.frg] at hG2
      subst hG2
      have hd : decide ((6000 : Int) < (n : Int)) = decide (6000 < n) := by rw [decide_eq_decide]; omega
      go_wp2
      go_ret
      exact ⟨(by first | rfl | simp), hbw⟩
end Go.Proofs.YtpggnhnpphbaeaaDoor
