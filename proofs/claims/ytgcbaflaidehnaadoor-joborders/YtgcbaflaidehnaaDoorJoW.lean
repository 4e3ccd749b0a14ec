/-
  Walks of the laws of layer 5: JobOrders.
-/
import Derived.Test.YtgcbaflaidehnaaDoorRo2
import Derived.Test.YtgcbaflaidehnaaDoorJobsArg
namespace Go.Proofs.YtgcbaflaidehnaaDoor
open Go.RowKit

/-- 'append([]api.Job{}, l...)' -/
theorem app_jobs {w W : World} {a : Option Addr} {ca : Nat} {l : List Job.Jb} (hrow : l = [] ∨ ∃ b o, a = some ⟨b, o, none⟩ ∧ b < w.heap.size ∧ Rg.At w b o (jobE.flat l)) (hlen : l.length ≤ 1000) (hb : Below w.heap.size w W) (g0 : Nat) (hg : Rg.Bk g0 [] 29 W) (hg0 : w.heap.size ≤ g0) :
    ∃ v' W', (Builtin.append_ #[22, 22] 22 #[.slice (some ⟨g0, 0, none⟩) 0 0, .slice a l.length ca]).run Tryd.prog W = .ok v' W' ∧ ∃ g cap rest, v' = .slice (some ⟨g, 0, none⟩) l.length cap ∧ jobE.Own w.heap.size W' g cap l rest ∧ Below W.heap.size W W' := by
  obtain ⟨i0, hi, hz0, hz1, hz2⟩ := infoJob'
  have hOwn0 : jobE.Own w.heap.size W g0 0 [] [] := ⟨hg, hg0, Nat.le_refl _, Nat.zero_le _, Nat.le_refl _⟩
  by_cases h0 : l = []
  · subst h0
    refine ⟨.slice (some ⟨g0, 0, none⟩) 0 0, W, ?_, g0, 0, [], rfl, hOwn0, Below.refl _ _⟩
    cases a <;> simp [Builtin.append_, run_underlying Tryd.underlying22, sizeOf, typeInfo, hi, Builtin.lenOf, Builtin.firstCells, storeCells, loadCells, loadCellsFrom]
  · obtain ⟨b, o, rfl, hlt, hat⟩ : ∃ b o, a = some ⟨b, o, none⟩ ∧ b < w.heap.size ∧ Rg.At w b o (jobE.flat l) := by
      rcases hrow with h | h
      · exact absurd h h0
      · exact h
    have hfl : (jobE.flat l).length = l.length * 8 := jobE.flat_length l
    have hpos : 0 < l.length := List.length_pos_iff.2 h0
    obtain ⟨v2, W2, hrun2, hown2, hgr2⟩ := run_append_arg_grows (P := Tryd.prog) W 22 22 29 i0 _ 8 96 Tryd.underlying22 hi hz0 hz1 hz2 rfl (by decide) ⟨g0, 0, none⟩ 0 0 [] rfl (fun j u hj => by simp at hj) ⟨b, o, none⟩ l.length ca (jobE.flat l) hfl (hat.below hb hlt).add (by omega) (by unfold maxLen; omega) (by omega)
    rw [Nat.zero_add, List.nil_append] at hown2
    have hv2 : ¬ v2 = .slice none 0 0 := fun e => by
      subst e
      rcases hown2.2 with ⟨_, e⟩ | ⟨_, _, _, e, _⟩
      · omega
      · cases e
    obtain ⟨g, cap, rest, e, ho⟩ := Rg.El.Own.of (E := jobE) hown2 hv2 rfl
    exact ⟨v2, W2, hrun2, g, cap, rest, e, ⟨ho.blk, Nat.le_trans hb.size ho.new, ho.le, ho.max, ho.fit⟩, (Below.refl _ _).grown hgr2 (Nat.le_refl _) (fun k hk => by cases hk)⟩
theorem own_job {base g cap : Nat} {W : World} {l : List Job.Jb} {rest : List Value} (h : jobE.Own base W g cap l rest) {i : Nat} (hi : i < l.length) : JAt W g (i * 8) l[i] := by
  have := h.row.elem hi
  rw [Nat.zero_add] at this
  exact job_at (show Rg.At W g (i * 8) (jobE.enc ⟨_, _, _, _, _, _, _, _⟩) from this)

set_option maxHeartbeats 4000000 in
set_option maxRecDepth 100000 in
theorem orders_walk (a : Option Addr) (cap : Nat) (l : List Job.Jb) (_ : ∀ j ∈ l, Fits j) (hn : l.length ≤ maxLen) (_ : a = none → cap = 0) (w : World) (hrow : JRow0 w a l) (hw : Ok w) :
    Calls Tryd.prog 3 #[.slice a l.length cap] w fun e w' => e = .returned (.bool true) ∧ Below w.heap.size w w' := by
  have hr1 : Hid (l = [] ∨ ∃ b o, a = some ⟨b, o, none⟩ ∧ b < w.heap.size ∧ ∀ (i : Nat) (h : i < l.length), JAt w b (o + i * 8) l[i]) := by
    rcases hrow with h | ⟨_, h⟩ | h
    · exact .inl h
    · exact .inl h
    · exact .inr h
  have HL : Hid (Calls Tryd.prog 4 #[.slice a l.length cap] w fun e w' => LongPost l w e w') := by
    rcases hrow with rfl | h
    · exact long_none a cap w
    · exact long_any a cap l w hn h
  have HA : Hid (∀ W, Below w.heap.size w W → Calls Tryd.prog 5 #[] W fun e w' => e = .returned (.bool true) ∧ Below w.heap.size w w') := fun W hW => (awake_any W (hw.below hW)).mono fun e w' ⟨h1, h2⟩ => ⟨h1, hW.trans (h2.mono hW.size)⟩
  obtain ⟨N, hN⟩ : ∃ N, N = l.length := ⟨_, rfl⟩
  rw [← hN] at HL ⊢
  replace hN := Rg.hid hN
  clear hrow hw hn
  go_enter Tryd.func3, Tryd.ntmps3
  go_wp2_with (go_at_call 4; refine HL.out.mono ?_)
  intro e w1 h1
  obtain ⟨L, rfl, h60, b1⟩ := h1
  cases L
  · replace h60 := h60 rfl
    have hat : l = [] ∨ ∃ b o, a = some ⟨b, o, none⟩ ∧ b < w.heap.size ∧ Rg.At w b o (jobE.flat l) := by
      rcases hr1.out with h | ⟨b, o, h1, h2, h3⟩
      · exact .inl h
      · exact .inr ⟨b, o, h1, h2, fun t u hu => row_cells h3 t u hu⟩
    obtain ⟨v', w2, hap, gi, ci, ri, rfl, hOi, b2⟩ := app_jobs (ca := cap) hat (by omega) (Rg.chain b1 (Rg.al1 w1 (.cells #[] 29))) w1.heap.size (Rg.Bk.new rfl) b1.size
    rw [← hN.out] at hap
    have hb2 := Rg.chain (Rg.chain b1 (Rg.al1 w1 (.cells #[] 29))) b2
    have HO : Hid (Calls Tryd.prog 6 #[.slice (some ⟨gi, 0, none⟩) N ci] w2 fun e w' => OrdPost2 w2 l e w') := by
      have := order_some gi ri ci l w w2 h60 ⟨hOi.blk, hb2⟩
      rw [← hN.out] at this; exact this
    have HR : Hid (∀ W, Below w.heap.size w W → Calls Tryd.prog 7 #[.slice a N cap] W fun e w' => RoPost W l e w') := fun W hW => by
      have := rorder_any a cap l h60 W (by
        rcases hr1.out with h | ⟨b, o, h1, h2, h3⟩
        · exact .inl h
        · exact .inr ⟨b, o, h1, Nat.lt_of_lt_of_le h2 hW.size, fun i h => (h3 i h).below hW h2⟩)
      rw [← hN.out] at this; exact this
    have h60' : N ≤ 60 := by rw [hN.out]; exact h60
    replace hap := Rg.hid hap
    replace hOi := Rg.hid hOi
    clear HL h60 hat b1 b2
    go_upto_region 4 with (at_builtin; refine Rg.wpList_append_run rfl (.tmp 10) (.tmp 11) 22 rfl _ _ rfl rfl _ _ hap.out ?_)
    go_wp2_with (go_at_call 6; refine HO.out.mono ?_)
    intro e w3 h3
    obtain ⟨g1, c1, r1, S, rfl, hSt, hg1, hS1⟩ := h3
    have hb3 := Rg.chain hb2 hS1.bel
    have hOi3 := Rg.hid (hOi.out.below hS1.bel)
    rw [← hN.out]
    replace hSt := Rg.hid hSt
    replace hS1 := Rg.hid hS1
    clear HO hap hOi hg1
    go_wp2_with (go_at_call 7; refine (HR.out _ hb3).mono ?_)
    intro e w4 h4
    obtain ⟨A2, c2, S2, rfl, hSt2, hJ2, b4⟩ := h4
    obtain rfl := hSt.out.uniq hSt2
    have hSl : Hid (S.length = N) := by show _ = _; rw [hSt.out.len, hN.out]
    have hS4 := Rg.hid (hS1.out.below b4)
    have hOi4 := Rg.hid (hOi3.out.below b4)
    have hb4 := Rg.chain hb3 b4
    rw [← hN.out]
    replace hJ2 := Rg.hid hJ2
    clear HR hS1 hOi3 hSt2 b4 hb3 hb2 hSt
    go_wp2
    go_loopw [24] (fun vi wr => ∃ i : Nat, i ≤ N ∧ vi = .int .i64 i ∧ Below w4.heap.size w4 wr) (fun vi _ => N - (intOf vi).toNat)
    case atStart => exact ⟨0, Nat.zero_le _, rfl, Below.refl _ _⟩
    case round =>
      obtain ⟨i, hin, rfl, hbw⟩ := hrel
      by_cases hlt : i < N
      · have hil : i < l.length := by rw [← hN.out]; exact hlt
        have hiS : i < S.length := by rw [hSl.out]; exact hlt
        obtain ⟨b, o, rfl, hb, hc⟩ : ∃ b o, a = some ⟨b, o, none⟩ ∧ b < w.heap.size ∧ ∀ (i : Nat) (h : i < l.length), JAt w b (o + i * 8) l[i] := by
          rcases hr1.out with h | h
          · rw [h] at hil; simp at hil
          · exact h
        obtain ⟨g2, r2, rfl, hO2⟩ : ∃ g rest, A2 = some ⟨g, 0, none⟩ ∧ jobE.Own w3.heap.size w4 g c2 S rest := by
          rcases hJ2.out with ⟨_, h, _⟩ | h
          · rw [h] at hiS; simp at hiS
          · exact h
        have j1 := (hS4.out.below hbw).job hiS
        have j2 := own_job (hO2.below hbw) hiS
        have j3 := own_job (hOi4.out.below hbw) hil
        have j4 := (hc i hil).below (Rg.chain hb4 hbw) hb
        generalize S[i] = x at *
        generalize l[i] = y at *
        have E1 : ∀ W, (binOp .neq 29 (jv x) (jv x)).run Tryd.prog W = .ok (.bool false) W := fun W => by rw [neq_job]; simp
        have E2 : ∀ W, (binOp .neq 29 (jv y) (jv y)).run Tryd.prog W = .ok (.bool false) W := fun W => by rw [neq_job]; simp
        have iz0 : (0 : Int) ≤ (i : Int) := by omega
        have iz1 : (i : Int) < (N : Int) := by omega
        clear hil hiS hc hO2 hb
        go_upto_region 10 with fail
        go_cut [46] (fun s wx => s = .bool false ∧ Below w4.heap.size w4 wx)
        case first =>
          obtain ⟨xg, xn, xk, xu, xf, xt, xc, xz⟩ := x
          obtain ⟨yg, yn, yk, yu, yf, yt, yc, yz⟩ := y
          obtain ⟨a0, a1, a2, a3, a4, a5, a6, a7⟩ := j1
          obtain ⟨b0, b1, b2, b3, b4, b5, b6, b7⟩ := j2
          obtain ⟨d0, d1, d2, d3, d4, d5, d6, d7⟩ := j3
          obtain ⟨f0, f1, f2, f3, f4, f5, f6, f7⟩ := j4
          dsimp only [jv] at a0 a1 a2 a3 a4 a5 a6 a7 b0 b1 b2 b3 b4 b5 b6 b7 d0 d1 d2 d3 d4 d5 d6 d7 f0 f1 f2 f3 f4 f5 f6 f7 E1 E2
          go_big_region
          all_goals (go_wp2_with fail; go_meet; exact ⟨rfl, hbw.drew⟩)
        case rest =>
          obtain ⟨rfl, hbx⟩ := hcut
          clear j1 j2 j3 j4 E1 E2
          go_wp2
          go_roundw
          case rel => exact ⟨i + 1, by omega, by go_num, hbx⟩
          case measure => simp [intOf]; omega
      · obtain rfl : i = N := by omega
        go_wp2_with (go_at_call 5; refine (HA.out _ (Rg.chain hb4 hbw)).mono ?_)
        rintro e w9 ⟨rfl, b9⟩
        go_wp2
        go_ret
        exact ⟨rfl, b9⟩
  · go_wp2_with (go_at_call 5; refine (HA.out _ b1).mono ?_)
    rintro e w9 ⟨rfl, b9⟩
    go_wp2
    go_ret
    exact ⟨rfl, b9⟩
end Go.Proofs.YtgcbaflaidehnaaDoor
