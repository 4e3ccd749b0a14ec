/-
  Walks of layer 14's statements: WindowRow.
-/
import Derived.Test.YtnglfefgcdbgmaaWnP
import Derived.Test.YtnglfefgcdbgmaaWnA
namespace Go.Proofs.Ytnglfefgcdbgmaa
open Go.RowKit
set_option maxHeartbeats 8000000 in
set_option maxRecDepth 100000 in
theorem row_big (p q : Int) (a : Option Addr) (cp : Nat) (w : World) (U r M U2 r2 Z N : Nat) (M1 : Int)
    (m0 : IntKind.u64.wrap p = (U : Int)) (m1 : (U : Int).tmod 63 = (r : Int)) (m2 : IntKind.i64.wrap (r : Int) = (r : Int)) (m3 : wrap64 (2 + (r : Int)) = (M : Int))
    (s0 : IntKind.u64.wrap q = (U2 : Int)) (s1 : wrap64 ((M : Int) - 1) = M1) (s2 : IntKind.u64.wrap M1 = M1) (s3 : ¬ M1 = 0) (s4 : (U2 : Int).tmod M1 = (r2 : Int)) (s5 : IntKind.i64.wrap (r2 : Int) = (r2 : Int)) (s6 : wrap64 (1 + (r2 : Int)) = (Z : Int)) (hN : decide ((300 : Int) < (N : Int)) = true) (HA : Hid (∀ W, Below w.heap.size w W → Calls Try.prog 13 #[] W fun e w' => e = .returned (.bool true) ∧ Below w.heap.size w w')) :
    Calls Try.prog 5 #[.int .i64 p, .int .i64 q, .slice a N cp] w fun e w' => e = .returned (.bool true) ∧ Below w.heap.size w w' := by
  go_enter Try.func5, Try.ntmps5
  go_wp2_with (go_at_call 13; refine (HA.out _ (Below.refl _ _)).mono ?_; rintro e w2 ⟨rfl, b2⟩)
  go_ret
  exact ⟨rfl, b2⟩
set_option maxHeartbeats 8000000 in
set_option maxRecDepth 100000 in
theorem row_core (p q : Int) (al : Option Addr) (cp : Nat) (l : List Wn.Op) (w : World) (U r M U2 r2 Z N : Nat) (M1 : Int)
    (m0 : IntKind.u64.wrap p = (U : Int)) (m1 : (U : Int).tmod 63 = (r : Int)) (m2 : IntKind.i64.wrap (r : Int) = (r : Int)) (m3 : wrap64 (2 + (r : Int)) = (M : Int))
    (s0 : IntKind.u64.wrap q = (U2 : Int)) (s1 : wrap64 ((M : Int) - 1) = M1) (s2 : IntKind.u64.wrap M1 = M1) (s3 : ¬ M1 = 0) (s4 : (U2 : Int).tmod M1 = (r2 : Int)) (s5 : IntKind.i64.wrap (r2 : Int) = (r2 : Int)) (s6 : wrap64 (1 + (r2 : Int)) = (Z : Int)) (hNl : Hid (N = l.length)) (hN : decide ((300 : Int) < (N : Int)) = false) (hN2 : N ≤ 300) (hrl : Hid (ORow w al l)) (HA : Hid (∀ W, Below w.heap.size w W → Calls Try.prog 13 #[] W fun e w' => e = .returned (.bool true) ∧ Below w.heap.size w w'))
    (HB : Hid (∀ W, Calls Try.prog 8 #[.int .i64 (M : Int), .int .i64 (Z : Int), .int .i64 0] W fun e w' => e = .returned (.tuple #[.agg #[.int .i64 (M : Int), .int .i64 (Z : Int), .int .i64 0, .slice none 0 0], .int .i64 0]) ∧ Below W.heap.size W w')) (rw0 : Hid (Wn.Row M Z 0 ⟨M, Z, 0, []⟩)) (hM0 : ¬ (M : Int) = 0) :
    Calls Try.prog 5 #[.int .i64 p, .int .i64 q, .slice al N cp] w fun e w' => e = .returned (.bool true) ∧ Below w.heap.size w w' := by
  go_enter Try.func5, Try.ntmps5
  go_upto_region 5 with fail
  simp only [m3, s6]
  clear m0 m1 m2 m3 s0 s1 s2 s3 s4 s5 s6
  go_upto_region 6 with (go_at_call 8; refine (HB.out _).mono ?_; rintro e w1 ⟨rfl, b1⟩)
  have v1 : Hid (VarAt w (w1.alloc (.cells #[.int .i64 (M : Int), .int .i64 (Z : Int), .int .i64 0, .slice none 0 0] 24)) w1.heap.size ⟨M, Z, 0, []⟩ none 0) := VarAt.make (X := ⟨M, Z, 0, []⟩) b1 ⟨.nil, Nat.le_refl _⟩
  obtain ⟨V, hV⟩ : ∃ V, V = w1.heap.size := ⟨_, rfl⟩
  rw [← hV] at v1 ⊢
  generalize World.alloc _ _ = w2 at *
  clear hV HB b1
  go_wp2
  go_loopw [9, 45] (fun v9 vi wx => ∃ (i puts : Nat) (X : Wn.W) (a : Option Addr) (c : Nat), i ≤ N ∧ vi = .int .i64 i ∧ v9 = .int .i64 puts ∧ Hid (VarAt w wx V X a c) ∧ Hid (Wn.Row M Z puts X) ∧ puts ≤ i) (fun _ vi _ => N - (intOf vi).toNat)
  case atStart => exact ⟨0, 0, _, none, 0, Nat.zero_le _, rfl, rfl, v1, rw0, Nat.le_refl _⟩
  case round =>
    obtain ⟨i, puts, X, a, c, hin, rfl, rfl, vI, rI, hpi⟩ := hrel
    clear v1 rw0
    by_cases hlt : i < N
    · have hil : i < l.length := by rw [← hNl.out]; exact hlt
      obtain ⟨lb, lo, rfl, _, x0, x1, x2⟩ := (hrl.out.below vI.out.bel).cell hil
      generalize l[i] = op at *
      obtain ⟨ok, on, os⟩ := op
      dsimp only at x0 x1 x2
      have iz0 : (0 : Int) ≤ (i : Int) := by omega
      have iz1 : (i : Int) < (N : Int) := by omega
      have bO := Rg.al1 wr (.cells #[.int .i64 ok, .int .i64 on, .string os] 45)
      have kO : Hid (Rg.Bk wr.heap.size [.int .i64 ok, .int .i64 on, .string os] 45 (wr.alloc (.cells #[.int .i64 ok, .int .i64 on, .string os] 45))) := Rg.Bk.new rfl
      have vI1 := Rg.hid (vI.out.below bO)
      clear hil bO vI
      go_upto_region 12 with fail
      generalize World.alloc _ _ = w3 at *
      obtain ⟨O, hO⟩ : ∃ O, O = wr.heap.size := ⟨_, rfl⟩
      rw [← hO] at kO ⊢
      clear hO x0 x1 x2
      have o0 : w3.cell? ⟨O, 0, none⟩ = some (.int .i64 ok) := kO.out.cell 0
      have o1 : w3.cell? ⟨O, 1, none⟩ = some (.int .i64 on) := kO.out.cell 1
      obtain ⟨z0, z1, z2, z3, _⟩ := vI1.out.cells
      by_cases hk1 : ok = 1
      · subst hk1
        obtain ⟨Y, hY⟩ : ∃ Y, Y = (Wn.ack X on).1 := ⟨_, rfl⟩
        obtain ⟨K, hK⟩ : ∃ K, K = (Wn.ack X on).2 := ⟨_, rfl⟩
        have HAk := ack_v w w3 V X a c on vI1.out
        have rA := rI.out.ack on
        rw [← hY, ← hK] at HAk
        rw [← hY] at rA
        unfold WV at HAk
        clear hY hK
        replace HAk := Rg.hid HAk
        replace rA := Rg.hid rA
        go_upto_region 20 with (go_at_call 17; refine HAk.out.mono ?_; rintro e w5 ⟨a', c', rfl, v5, h5⟩; obtain ⟨y0, y1, y2, y3, yf⟩ := v5.out.cells)
        have vS := Rg.hid (v5.out.store h5.out)
        unfold Set4 at vS
        generalize World.setCell _ _ _ = w6 at *
        clear z0 z1 z2 z3 y0 y1 y2 y3 yf v5 h5 HAk o0 o1 kO vI1 rI
        have vM := Rg.hid (vS.out.below (Rg.al1 w6 (.map #[] 0)))
        have mb0 := Rg.hid (MB.new w6)
        have hmm := @run_makeMap Try.prog
        have HN2 := nums_v w (w6.alloc (.map #[] 0)) V Y a' c' vM.out
        have np := rA.out.np
        obtain ⟨Q, hQ⟩ : ∃ Q, Q = Wn.nums Y := ⟨_, rfl⟩
        rw [← hQ] at HN2 np
        obtain ⟨q, hq⟩ : ∃ q, q = Q.length := ⟨_, rfl⟩
        rw [← hq] at HN2 np
        unfold WV at HN2
        replace HN2 := Rg.hid HN2
        replace np := Rg.hid np
        have hq64 : q ≤ 64 := by have h1 := np.out.lx; have h2 := Wn.rt_parts rA.out.ok; omega
        obtain ⟨v0, v1, v2, v3, _⟩ := vM.out.cells
        have hrw : w6.heap.size ≥ w.heap.size := vS.out.bel.size
        clear hQ hq vS
        go_upto_region 21 with fail
        obtain ⟨r, hr⟩ : ∃ r, r = w6.heap.size := ⟨_, rfl⟩
        rw [← hr] at mb0 hrw ⊢
        generalize World.alloc _ _ = wm at *
        clear hr hmm
        go_wp2_with (go_at_call 21; refine HN2.out.mono ?_; rintro e wn ⟨na, nc, rfl, nr, vN, bN⟩)
        have mbN := Rg.hid (mb0.out.below bN.out)
        clear mb0 bN vM HN2 v0 v1 v2 v3
        go_loopw [98] (fun vj wx => ∃ j : Nat, j ≤ q ∧ vj = .int .i64 j ∧ Hid (VarAt w wx V Y a' c') ∧ Hid (MB wx r (Q.take j)) ∧ Hid (NRow wx na Q)) (fun vj _ => q - (intOf vj).toNat)
        case atStart => exact ⟨0, Nat.zero_le _, rfl, vN, mbN, nr⟩
        case round =>
          obtain ⟨j, hjq, rfl, vj, mj, nj⟩ := hrel
          by_cases hj : j < q
          · have hjQ : j < Q.length := by rw [← np.out.len]; exact hj
            obtain ⟨nb, no, hna, _, y0⟩ := nj.out.cell hjQ
            have hfr := np.out.fresh j hjQ
            have hrg := np.out.rng j hjQ
            have htk : Hid (Q.take j ++ [Q[j]] = Q.take (j + 1)) := (List.take_succ_eq_append_getElem hjQ).symm
            obtain ⟨D, hD⟩ : ∃ D, D = Q[j] := ⟨_, rfl⟩
            rw [← hD] at y0 hfr hrg htk
            have hlk := mj.out.lookup hfr
            obtain ⟨W', hup, mj2, oW⟩ := mj.out.update hfr
            have vj2 := Rg.hid (mj.out.var oW hrw vj.out)
            have nj2 := Rg.hid (mj.out.nrow oW nj.out)
            rw [htk.out] at mj2
            replace mj2 := Rg.hid mj2
            have d0 : decide (D < 0) = false := by simp; omega
            have d1 : decide ((M : Int) ≤ D) = false := by simp; omega
            have iz0 : (0 : Int) ≤ (j : Int) := by omega
            have iz1 : (j : Int) < (q : Int) := by omega
            cases hna
            clear hD hjQ hfr hrg htk mj nj vj oW np vN mbN nr
            go_wp2
            go_roundw
            case rel => exact ⟨j + 1, by omega, by go_num, vj2, mj2, nj2⟩
            case measure => simp [intOf]; omega
          · obtain rfl : j = q := by omega
            have hln := mj.out.len 3
            rw [List.take_of_length_le (by rw [← np.out.len]; exact Nat.le_refl _), ← np.out.len] at hln
            have hle := np.out.le
            have hlx := np.out.lx
            have hjz : ¬ Z < j := by omega
            have t5 : ((j : Int) != (Y.l.length : Int)) = false := by rw [← hlx]; simp
            have t6 : decide (Z < j) = false := by simp; omega
            have t1 : ((j : Int) == (Y.l.length : Int)) = true := by rw [← hlx]; simp
            have t2 : (j == Y.l.length) = true := by rw [← hlx]; simp
            obtain ⟨v0, v1, v2, v3, _⟩ := vj.out.cells
            clear hle mj nj np vN mbN nr v0 v1 v2
            replace hlx := Rg.hid hlx
            go_wp2
            go_roundw
            case rel => exact ⟨i + 1, puts, Y, a', c', by omega, by go_num, rfl, vj, rA, by omega⟩
            case measure => simp [intOf]; omega

      · have d2 : (ok == 1) = false := by simp [hk1]
        obtain ⟨Y, hY⟩ : ∃ Y, Y = (Wn.put X ⟨#[120]⟩).1 := ⟨_, rfl⟩
        obtain ⟨P, hP⟩ : ∃ P, P = (Wn.put X ⟨#[120]⟩).2.1 := ⟨_, rfl⟩
        obtain ⟨E, hE⟩ : ∃ E, E = (Wn.put X ⟨#[120]⟩).2.2 := ⟨_, rfl⟩
        have HPu := put_v w w3 V X a c ⟨#[120]⟩ vI1.out
        have rP := Wn.row_full rI.out ⟨#[120]⟩
        rw [← hY, ← hP, ← hE] at HPu rP
        unfold WV at HPu
        clear hY hP hE
        replace HPu := Rg.hid HPu
        go_upto_region 15 with (go_at_call 15; refine HPu.out.mono ?_; rintro e u4 ⟨a', c', rfl, v4, h4⟩)
        have bb := Rg.al1 u4 (.cells #[.int .i64 Y.md, .int .i64 Y.sz, .int .i64 Y.bs, .slice a' Y.l.length c'] 24)
        have kZ : Hid (Rg.Bk u4.heap.size [.int .i64 Y.md, .int .i64 Y.sz, .int .i64 Y.bs, .slice a' Y.l.length c'] 24 (u4.alloc (.cells #[.int .i64 Y.md, .int .i64 Y.sz, .int .i64 Y.bs, .slice a' Y.l.length c'] 24))) := Rg.Bk.new rfl
        have v5 := Rg.hid (v4.out.below bb)
        have h5 := Rg.hid (h4.out.below bb)
        generalize World.alloc _ _ = w5 at *
        obtain ⟨Q, hQ⟩ : ∃ Q, Q = u4.heap.size := ⟨_, rfl⟩
        rw [← hQ] at kZ ⊢
        clear hQ bb v4 h4 HPu z0 z1 z2 z3 o0 o1 kO vI1
        rcases rP with ⟨hE0, hPn, rP⟩ | ⟨hE8, hfull, hYX⟩
        · subst hE0
          have hmod : (puts : Int).tmod (M : Int) = P := by rw [Int.tmod_eq_emod_of_nonneg (by omega), hPn]
          clear hPn rI
          replace rP := Rg.hid rP
          obtain ⟨z0, z1, z2, z3, zf⟩ := v5.out.cells
          have q0 : w5.cell? ⟨Q, 0, none⟩ = some (.int .i64 Y.md) := kZ.out.cell 0
          have q1 : w5.cell? ⟨Q, 1, none⟩ = some (.int .i64 Y.sz) := kZ.out.cell 1
          have q2 : w5.cell? ⟨Q, 2, none⟩ = some (.int .i64 Y.bs) := kZ.out.cell 2
          have q3 : w5.cell? ⟨Q, 3, none⟩ = some (.slice a' Y.l.length c') := kZ.out.cell 3
          have vS := Rg.hid (v5.out.store h5.out)
          unfold Set4 at vS
          clear kZ h5 v5
          go_upto_region 20 with fail
          generalize World.setCell _ _ _ = w6 at *
          clear z0 z1 z2 z3 zf q0 q1 q2 q3
          have vM := Rg.hid (vS.out.below (Rg.al1 w6 (.map #[] 0)))
          clear hmod
          have mb0 := Rg.hid (MB.new w6)
          have hmm := @run_makeMap Try.prog
          have HN2 := nums_v w (w6.alloc (.map #[] 0)) V Y a' c' vM.out
          have np := rP.out.np
          obtain ⟨Q, hQ⟩ : ∃ Q, Q = Wn.nums Y := ⟨_, rfl⟩
          rw [← hQ] at HN2 np
          obtain ⟨q, hq⟩ : ∃ q, q = Q.length := ⟨_, rfl⟩
          rw [← hq] at HN2 np
          unfold WV at HN2
          replace HN2 := Rg.hid HN2
          replace np := Rg.hid np
          have hq64 : q ≤ 64 := by have h1 := np.out.lx; have h2 := Wn.rt_parts rP.out.ok; omega
          obtain ⟨v0, v1, v2, v3, _⟩ := vM.out.cells
          have hrw : w6.heap.size ≥ w.heap.size := vS.out.bel.size
          clear hQ hq vS
          go_upto_region 21 with fail
          obtain ⟨r, hr⟩ : ∃ r, r = w6.heap.size := ⟨_, rfl⟩
          rw [← hr] at mb0 hrw ⊢
          generalize World.alloc _ _ = wm at *
          clear hr hmm
          go_wp2_with (go_at_call 21; refine HN2.out.mono ?_; rintro e wn ⟨na, nc, rfl, nr, vN, bN⟩)
          have mbN := Rg.hid (mb0.out.below bN.out)
          clear mb0 bN vM HN2 v0 v1 v2 v3
          go_loopw [98] (fun vj wx => ∃ j : Nat, j ≤ q ∧ vj = .int .i64 j ∧ Hid (VarAt w wx V Y a' c') ∧ Hid (MB wx r (Q.take j)) ∧ Hid (NRow wx na Q)) (fun vj _ => q - (intOf vj).toNat)
          case atStart => exact ⟨0, Nat.zero_le _, rfl, vN, mbN, nr⟩
          case round =>
            obtain ⟨j, hjq, rfl, vj, mj, nj⟩ := hrel
            by_cases hj : j < q
            · have hjQ : j < Q.length := by rw [← np.out.len]; exact hj
              obtain ⟨nb, no, hna, _, y0⟩ := nj.out.cell hjQ
              have hfr := np.out.fresh j hjQ
              have hrg := np.out.rng j hjQ
              have htk : Hid (Q.take j ++ [Q[j]] = Q.take (j + 1)) := (List.take_succ_eq_append_getElem hjQ).symm
              obtain ⟨D, hD⟩ : ∃ D, D = Q[j] := ⟨_, rfl⟩
              rw [← hD] at y0 hfr hrg htk
              have hlk := mj.out.lookup hfr
              obtain ⟨W', hup, mj2, oW⟩ := mj.out.update hfr
              have vj2 := Rg.hid (mj.out.var oW hrw vj.out)
              have nj2 := Rg.hid (mj.out.nrow oW nj.out)
              rw [htk.out] at mj2
              replace mj2 := Rg.hid mj2
              have d0 : decide (D < 0) = false := by simp; omega
              have d1 : decide ((M : Int) ≤ D) = false := by simp; omega
              have iz0 : (0 : Int) ≤ (j : Int) := by omega
              have iz1 : (j : Int) < (q : Int) := by omega
              cases hna
              clear hD hjQ hfr hrg htk mj nj vj oW np vN mbN nr
              go_wp2
              go_roundw
              case rel => exact ⟨j + 1, by omega, by go_num, vj2, mj2, nj2⟩
              case measure => simp [intOf]; omega
            · obtain rfl : j = q := by omega
              have hln := mj.out.len 3
              rw [List.take_of_length_le (by rw [← np.out.len]; exact Nat.le_refl _), ← np.out.len] at hln
              have hle := np.out.le
              have hlx := np.out.lx
              have hjz : ¬ Z < j := by omega
              have t5 : ((j : Int) != (Y.l.length : Int)) = false := by rw [← hlx]; simp
              have t6 : decide (Z < j) = false := by simp; omega
              have t1 : ((j : Int) == (Y.l.length : Int)) = true := by rw [← hlx]; simp
              have t2 : (j == Y.l.length) = true := by rw [← hlx]; simp
              obtain ⟨v0, v1, v2, v3, _⟩ := vj.out.cells
              clear hle mj nj np vN mbN nr v0 v1 v2
              replace hlx := Rg.hid hlx
              go_wp2
              go_roundw
              case rel => exact ⟨i + 1, puts + 1, Y, a', c', by omega, by go_num, by go_num, vj, rP, by omega⟩
              case measure => simp [intOf]; omega

        · subst hE8
          have t3 : ((X.l.length : Int) == (Z : Int)) = true := by rw [hfull]; simp
          have t4 : (X.l.length : Int) = (Z : Int) := hfull
          have hYr : Hid (Wn.Row M Z puts Y) := by rw [hYX]; exact rI.out
          clear hfull hYX rI
          obtain ⟨z0, z1, z2, z3, zf⟩ := v5.out.cells
          have q0 : w5.cell? ⟨Q, 0, none⟩ = some (.int .i64 Y.md) := kZ.out.cell 0
          have q1 : w5.cell? ⟨Q, 1, none⟩ = some (.int .i64 Y.sz) := kZ.out.cell 1
          have q2 : w5.cell? ⟨Q, 2, none⟩ = some (.int .i64 Y.bs) := kZ.out.cell 2
          have q3 : w5.cell? ⟨Q, 3, none⟩ = some (.slice a' Y.l.length c') := kZ.out.cell 3
          have vS := Rg.hid (v5.out.store h5.out)
          unfold Set4 at vS
          clear kZ h5 v5
          go_upto_region 20 with fail
          generalize World.setCell _ _ _ = w6 at *
          clear z0 z1 z2 z3 zf q0 q1 q2 q3
          have vM := Rg.hid (vS.out.below (Rg.al1 w6 (.map #[] 0)))
          clear t3 t4
          have mb0 := Rg.hid (MB.new w6)
          have hmm := @run_makeMap Try.prog
          have HN2 := nums_v w (w6.alloc (.map #[] 0)) V Y a' c' vM.out
          have np := hYr.out.np
          obtain ⟨Q, hQ⟩ : ∃ Q, Q = Wn.nums Y := ⟨_, rfl⟩
          rw [← hQ] at HN2 np
          obtain ⟨q, hq⟩ : ∃ q, q = Q.length := ⟨_, rfl⟩
          rw [← hq] at HN2 np
          unfold WV at HN2
          replace HN2 := Rg.hid HN2
          replace np := Rg.hid np
          have hq64 : q ≤ 64 := by have h1 := np.out.lx; have h2 := Wn.rt_parts hYr.out.ok; omega
          obtain ⟨v0, v1, v2, v3, _⟩ := vM.out.cells
          have hrw : w6.heap.size ≥ w.heap.size := vS.out.bel.size
          clear hQ hq vS
          go_upto_region 21 with fail
          obtain ⟨r, hr⟩ : ∃ r, r = w6.heap.size := ⟨_, rfl⟩
          rw [← hr] at mb0 hrw ⊢
          generalize World.alloc _ _ = wm at *
          clear hr hmm
          go_wp2_with (go_at_call 21; refine HN2.out.mono ?_; rintro e wn ⟨na, nc, rfl, nr, vN, bN⟩)
          have mbN := Rg.hid (mb0.out.below bN.out)
          clear mb0 bN vM HN2 v0 v1 v2 v3
          go_loopw [98] (fun vj wx => ∃ j : Nat, j ≤ q ∧ vj = .int .i64 j ∧ Hid (VarAt w wx V Y a' c') ∧ Hid (MB wx r (Q.take j)) ∧ Hid (NRow wx na Q)) (fun vj _ => q - (intOf vj).toNat)
          case atStart => exact ⟨0, Nat.zero_le _, rfl, vN, mbN, nr⟩
          case round =>
            obtain ⟨j, hjq, rfl, vj, mj, nj⟩ := hrel
            by_cases hj : j < q
            · have hjQ : j < Q.length := by rw [← np.out.len]; exact hj
              obtain ⟨nb, no, hna, _, y0⟩ := nj.out.cell hjQ
              have hfr := np.out.fresh j hjQ
              have hrg := np.out.rng j hjQ
              have htk : Hid (Q.take j ++ [Q[j]] = Q.take (j + 1)) := (List.take_succ_eq_append_getElem hjQ).symm
              obtain ⟨D, hD⟩ : ∃ D, D = Q[j] := ⟨_, rfl⟩
              rw [← hD] at y0 hfr hrg htk
              have hlk := mj.out.lookup hfr
              obtain ⟨W', hup, mj2, oW⟩ := mj.out.update hfr
              have vj2 := Rg.hid (mj.out.var oW hrw vj.out)
              have nj2 := Rg.hid (mj.out.nrow oW nj.out)
              rw [htk.out] at mj2
              replace mj2 := Rg.hid mj2
              have d0 : decide (D < 0) = false := by simp; omega
              have d1 : decide ((M : Int) ≤ D) = false := by simp; omega
              have iz0 : (0 : Int) ≤ (j : Int) := by omega
              have iz1 : (j : Int) < (q : Int) := by omega
              cases hna
              clear hD hjQ hfr hrg htk mj nj vj oW np vN mbN nr
              go_wp2
              go_roundw
              case rel => exact ⟨j + 1, by omega, by go_num, vj2, mj2, nj2⟩
              case measure => simp [intOf]; omega
            · obtain rfl : j = q := by omega
              have hln := mj.out.len 3
              rw [List.take_of_length_le (by rw [← np.out.len]; exact Nat.le_refl _), ← np.out.len] at hln
              have hle := np.out.le
              have hlx := np.out.lx
              have hjz : ¬ Z < j := by omega
              have t5 : ((j : Int) != (Y.l.length : Int)) = false := by rw [← hlx]; simp
              have t6 : decide (Z < j) = false := by simp; omega
              have t1 : ((j : Int) == (Y.l.length : Int)) = true := by rw [← hlx]; simp
              have t2 : (j == Y.l.length) = true := by rw [← hlx]; simp
              obtain ⟨v0, v1, v2, v3, _⟩ := vj.out.cells
              clear hle mj nj np vN mbN nr v0 v1 v2
              replace hlx := Rg.hid hlx
              go_wp2
              go_roundw
              case rel => exact ⟨i + 1, puts, Y, a', c', by omega, by go_num, rfl, vj, hYr, by omega⟩
              case measure => simp [intOf]; omega

    · have hbA := Rg.hid vI.out.bel
      clear vI rI
      go_wp2_with (go_at_call 13; refine (HA.out _ hbA.out).mono ?_; rintro e w4 ⟨rfl, b4⟩)
      go_ret
      exact ⟨rfl, b4⟩
end Go.Proofs.Ytnglfefgcdbgmaa
