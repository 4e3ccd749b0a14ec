/-
  Layer 8's statement ChatEnds: the walk.
-/
import Derived.Test.YtdclnimmfnlnhaaDoorCh31
import Derived.Test.YtdclnimmfnlnhaaDoorCh27
import Derived.Test.YtdclnimmfnlnhaaDoorCh15
import Derived.Test.YtdclnimmfnlnhaaDoorMathQ8
namespace Go.Proofs.YtdclnimmfnlnhaaDoor
open Go.RowKit

theorem Ch.pmod (x : Int) : ∃ (F : Nat) (U : Int), IntKind.u64.wrap x = U ∧ U.tmod 20 = (F : Int) ∧ U % 20 = (F : Int) ∧ F ≤ 19 ∧ IntKind.i64.wrap (F : Int) = (F : Int) := by
  have h : 0 ≤ IntKind.u64.wrap x := by rw [IntKind.wrap_u64]; omega
  refine ⟨(IntKind.u64.wrap x % 20).toNat, _, rfl, by rw [Int.tmod_eq_emod_of_nonneg h]; omega, by omega, by omega, ?_⟩
  rw [IntKind.wrap_i64]; omega
theorem Ch.sumW_take (xs : List Ch.St) (j : Nat) (h : j < xs.length) : Ch.sumW (xs.take (j + 1)) = Ch.sumW (xs.take j) + xs[j].wants.length := by
  rw [List.take_succ_eq_append_getElem h]
  generalize xs.take j = L
  induction L with
  | nil => simp [Ch.sumW]
  | cons y L ih => simp only [List.cons_append, Ch.sumW, ih]; omega
theorem Ch.sums (q wn n j : Nat) (hq : q ≤ 19) (hwn : wn ≤ 6000) (hn : n ≤ j * 120000) (hj : j ≤ 60) : ∃ Q1 m n2 : Nat, q + 1 = Q1 ∧ wn * Q1 = m ∧ n + m = n2 ∧ n2 ≤ (j + 1) * 120000 ∧ IntKind.i64.wrap ((q : Int) + 1) = (Q1 : Int) ∧ wrap64 ((q : Int) + 1) = (Q1 : Int) ∧ IntKind.i64.wrap ((wn : Int) * (Q1 : Int)) = (m : Int) ∧ wrap64 ((wn : Int) * (Q1 : Int)) = (m : Int) ∧ IntKind.i64.wrap ((n : Int) + (m : Int)) = (n2 : Int) ∧ wrap64 ((n : Int) + (m : Int)) = (n2 : Int) := by
  have hmb : wn * (q + 1) ≤ 6000 * 20 := Nat.mul_le_mul hwn (by omega)
  have hmi : (wn : Int) * ((q + 1 : Nat) : Int) = ((wn * (q + 1) : Nat) : Int) := by simp
  refine ⟨q + 1, wn * (q + 1), n + wn * (q + 1), rfl, rfl, rfl, by omega, ?_, ?_, ?_, ?_, ?_, ?_⟩
  · rw [IntKind.wrap_i64]; omega
  · unfold wrap64; omega
  · rw [hmi, IntKind.wrap_i64]; omega
  · rw [hmi]; unfold wrap64; omega
  · rw [IntKind.wrap_i64]; omega
  · unfold wrap64; omega
theorem Ch.left (n t : Nat) (h : t < n) : ∃ k, n - t = k + 1 ∧ k = n - (t + 1) := ⟨n - t - 1, by omega, by omega⟩
theorem tok_of {l : List Ch.St} {q : Nat} {c : Ch.Co} (hN : Ch.Near l) (hq : q ≤ 1000) (h : Ch.Jn l q c) : TOk c := by
  have hs := h.steps
  refine ⟨⟨by rw [hs]; have := hN.len; omega, by rw [h.seen]; simp, fun x hx => by rw [hs] at hx; have := hN.send x hx; omega, by have := h.step; omega⟩, ⟨h.wait.1, by have := h.wait.2; omega⟩, ⟨by have := h.want.1; omega, ?_⟩, fun x hx s hs' => by rw [hs] at hx; have := (hN.nudge x hx).2 s hs'; omega⟩
  rcases h.want.2 with e | ⟨x, hx, e⟩
  · omega
  · have := (hN.wants x hx).1; omega

theorem CAt.flags {W : World} {sa : Option Addr} {sn sc : Nat} {cstep cwant : Int} {cseen : ByteArray} {cwait cpat : Int} {cover cfailed : Bool} {ck : Ch.Co} (h : CAt W (.agg #[.slice sa sn sc, .int .i64 cstep, .int .i64 cwant, .string cseen, .int .i64 cwait, .int .i64 cpat, .bool cover, .bool cfailed]) ck) : cover = ck.over ∧ cfailed = ck.failed := by
  obtain ⟨sa2, sc2, vs, h1, _⟩ := h
  simp [CC] at h1
  exact ⟨h1.2.2.2.2.2.2.1, h1.2.2.2.2.2.2.2⟩

set_option maxHeartbeats 4000000 in
set_option maxRecDepth 100000 in
theorem ends_walk (a : Option Addr) (c : Nat) (vs : List SV) (xs : List Ch.St) (p : Int) (w : World) (hr : Row0 stepE w a vs) (hx : ISts w vs xs) (hsm : ∀ x ∈ xs, x.send.size ≤ maxLen) (hE : Env w) :
    Calls Tryd.prog 8 #[.slice a xs.length c, .int .i64 p] w fun e w' => e = .returned (.bool true) ∧ Below w.heap.size w w' := by
  have HA : Hid (∀ W, Below w.heap.size w W → Calls Tryd.prog 9 #[] W fun e w' => e = .returned (.bool true) ∧ Hid (Below w.heap.size w w')) := fun W hW => (awake_any W (hE.below hW)).mono fun e w' ⟨h1, h2⟩ => ⟨h1, Rg.chain hW h2⟩
  have HF0 := far_any a c vs xs w hr hx hsm
  by_cases hf : Ch.far xs = true
  · rw [hf] at HF0
    have HF : Hid (Calls Tryd.prog 13 #[.slice a xs.length c] w fun e w' => e = .returned (.bool true) ∧ Hid (Below w.heap.size w w')) := HF0
    generalize xs.length = N at *
    clear HF0
    go_enter Tryd.func8, Tryd.ntmps8
    go_wp2_with (first
      | (go_at_call 13; refine HF.out.mono ?_; rintro e w1 ⟨rfl, b1⟩)
      | (go_at_call 9; refine (HA.out _ b1.out).mono ?_; rintro e w9 ⟨rfl, b9⟩))
    go_ret
    exact ⟨rfl, b9.out⟩
  replace hf : Ch.far xs = false := by simpa using hf
  rw [hf] at HF0
  have hNear := Rg.hid (Ch.near_of hf)
  clear hf
  have HB0 := fun (p' : Int) W (hW : Below w.heap.size w W) => begin_in a c vs xs p' W (hE.below hW).max (by have := hNear.out.len; omega) (fun x hx => by have := (hNear.out.wants x hx).1; have := (hNear.out.nudge x hx).1; omega) (fun x hx => by have := hNear.out.send x hx; omega) (hr.below hW) (hx.below hW)
  have hN60 := hNear.out.len
  obtain ⟨N, hN⟩ : ∃ N, N = xs.length := ⟨_, rfl⟩
  rw [← hN] at HF0 HB0 hN60 ⊢
  have HF : Hid (Calls Tryd.prog 13 #[.slice a N c] w fun e w' => e = .returned (.bool false) ∧ Hid (Below w.heap.size w w')) := HF0
  clear HF0
  replace hN := Rg.hid hN
  replace HB0 := Rg.hid HB0
  replace hr := Rg.hid hr
  replace hx := Rg.hid hx
  replace hE := Rg.hid hE
  clear hsm
  go_enter Tryd.func8, Tryd.ntmps8
  go_upto_region 3 with (go_at_call 13; refine HF.out.mono ?_; rintro e w1 ⟨rfl, b1⟩)
  clear HF
  go_wp2
  go_loopw [19] (fun vi wr => ∃ (i : Nat), i ≤ N ∧ vi = .int .i64 i ∧ Hid (Ch.Even (xs.take i)) ∧ Hid (Below w.heap.size w wr)) (fun vi _ => N - (intOf vi).toNat)
  case atStart => exact ⟨0, Nat.zero_le _, rfl, (fun x hx => by simp at hx), b1⟩
  case round =>
    obtain ⟨i, hin, rfl, hEv, hbw⟩ := hrel
    by_cases hlt : i < N
    · have hil : i < xs.length := by rw [← hN.out]; exact hlt
      have hiv : i < vs.length := by rw [hx.out.1]; exact hil
      obtain ⟨b1', o1, rfl⟩ := row_place (hr.out.row hiv) hiv
      obtain ⟨e0, e1, e2⟩ := irow_cells ((hr.out.row hiv).below hbw.out) hiv
      have hst := (hx.out.2 i hiv hil)
      have hz0 : (0 : Int) ≤ (i : Int) := by omega
      have hz1 : (i : Int) < (N : Int) := by omega
      have hwx := hNear.out.wants xs[i] (List.getElem_mem hil)
      have hnx := hNear.out.nudge xs[i] (List.getElem_mem hil)
      have hEv2 : xs[i].wants.length = xs[i].nudge.length + 1 → Hid (Ch.Even (xs.take (i + 1))) := fun h => by
        intro x hx
        rw [List.take_succ_eq_append_getElem hil] at hx
        rcases List.mem_append.1 hx with e | e
        · exact hEv.out x e
        · rw [List.mem_singleton.1 e]; exact h
      have h1 := hst.n
      have h2 := hst.m
      obtain ⟨sv, hsv⟩ : ∃ sv, vs[i] = sv := ⟨_, rfl⟩
      rw [hsv] at e0 e1 e2 h1 h2
      obtain ⟨wa, wn, wcp, na, nn, ncp, ss⟩ := sv
      dsimp only at e0 e1 e2 h1 h2
      rw [← h1, ← h2] at hEv2
      have hwn : wn ≤ 6000 := by rw [h1]; exact hwx.1
      have hnn : nn ≤ 6000 := by rw [h2]; exact hnx.1
      have hbX := Rg.hid (Rg.chain hbw.out (Rg.al1 wr (.cells #[.slice wa wn wcp, .slice na nn ncp, .string ss] 45)))
      have kX : Rg.Bk wr.heap.size [.slice wa wn wcp, .slice na nn ncp, .string ss] 45 (wr.alloc (.cells #[.slice wa wn wcp, .slice na nn ncp, .string ss] 45)) := Rg.Bk.new rfl
      clear hst hwx hnx hsv h1 h2 hEv hbw
      go_upto_region 6 with fail
      clear e0 e1 e2
      generalize World.alloc _ _ = w2 at *
      obtain ⟨X, hX⟩ : ∃ X, X = wr.heap.size := ⟨_, rfl⟩
      rw [← hX] at kX ⊢
      clear hX
      have x0 : w2.cell? ⟨X, 0, none⟩ = some (.slice wa wn wcp) := kX.cell 0
      have x1 : w2.cell? ⟨X, 1, none⟩ = some (.slice na nn ncp) := kX.cell 1
      clear kX
      by_cases hw0 : wn = 0
      · have d0 : ((wn : Int) == 0) = true := by rw [beq_iff_eq]; omega
        clear hEv2
        go_wp2_with (go_at_call 9; refine (HA.out _ hbX.out).mono ?_; rintro e w9 ⟨rfl, b9⟩)
        go_ret
        exact ⟨rfl, b9.out⟩
      have d0 : ((wn : Int) == 0) = false := by rw [beq_eq_false_iff_ne]; omega
      obtain ⟨u, hu⟩ : ∃ u, wn = u + 1 := ⟨wn - 1, by omega⟩
      have q1 : IntKind.i64.wrap ((wn : Int) - 1) = (u : Int) := by rw [IntKind.wrap_i64]; omega
      have q2 : wrap64 ((wn : Int) - 1) = (u : Int) := by unfold wrap64; omega
      by_cases hne : nn = u
      · have d1 : ((nn : Int) != (u : Int)) = false := by rw [bne_eq_false_iff_eq]; omega
        have hEv3 := hEv2 (by omega)
        clear hEv2 hu hw0
        go_wp2
        go_roundw
        case rel => exact ⟨i + 1, by omega, by go_num, hEv3, hbX⟩
        case measure => simp [intOf]; omega
      · have d1 : ((nn : Int) != (u : Int)) = true := by rw [bne_iff_ne]; omega
        clear hEv2 hu hw0 hne
        go_wp2_with (go_at_call 9; refine (HA.out _ hbX.out).mono ?_; rintro e w9 ⟨rfl, b9⟩)
        go_ret
        exact ⟨rfl, b9.out⟩
    · obtain rfl : i = N := by omega
      have hEv2 := hEv.out
      rw [List.take_of_length_le (by rw [hN.out]; exact Nat.le_refl _)] at hEv2
      replace hEv2 := Rg.hid hEv2
      obtain ⟨F, U, u1, u2, u3, hF, u4⟩ := Ch.pmod p
      obtain ⟨q, hq⟩ : ∃ q : Nat, max 1 F = q := ⟨_, rfl⟩
      have hq20 : q ≤ 19 := by omega
      have hqi : max (1 : Int) (F : Int) = (q : Int) := by omega
      have hEn0 := Ch.begin_ends xs (F : Int) q hEv2.out (by omega)
      have HB : Hid (∀ W, Below w.heap.size w W → Calls Tryd.prog 17 #[.slice a i c, .int .i64 (F : Int)] W fun e w' => GEx W (Ch.begin_ xs (F : Int)) e w') := fun W hW => (HB0.out F W hW).mono fun e w' q => q.ex
      unfold GEx at HB
      generalize Ch.begin_ xs (F : Int) = r0 at *
      obtain ⟨c0, out0⟩ := r0
      dsimp only at hEn0 HB
      replace hEn0 := Rg.hid hEn0
      generalize out0.toArray = oa at *
      clear HB0 hEv
      go_upto_region 11 with (go_at_call 17; refine (HB.out _ hbw.out).mono ?_; rintro e w2 ⟨sa, sn, sc, cstep, cwant, cseen, cwait, cpat, cover, cfailed, rfl, hA2, b2⟩)
      have kC : Rg.Bk w2.heap.size [.slice sa sn sc, .int .i64 cstep, .int .i64 cwant, .string cseen, .int .i64 cwait, .int .i64 cpat, .bool cover, .bool cfailed] 35 (w2.alloc (.cells #[.slice sa sn sc, .int .i64 cstep, .int .i64 cwant, .string cseen, .int .i64 cwait, .int .i64 cpat, .bool cover, .bool cfailed] 35)) := Rg.Bk.new rfl
      have hA3 := Rg.hid (hA2.below (Rg.al1 w2 (.cells #[.slice sa sn sc, .int .i64 cstep, .int .i64 cwant, .string cseen, .int .i64 cwait, .int .i64 cpat, .bool cover, .bool cfailed] 35)))
      have hb3 := Rg.hid (Rg.chain (Rg.chain hbw.out b2) (Rg.al1 w2 (.cells #[.slice sa sn sc, .int .i64 cstep, .int .i64 cwant, .string cseen, .int .i64 cwait, .int .i64 cpat, .bool cover, .bool cfailed] 35)))
      have hCw : w.heap.size ≤ w2.heap.size := (Rg.chain hbw.out b2).size
      clear hA2 b2 hbw HB u1 u2 u3 u4
      generalize World.alloc _ _ = w3 at *
      obtain ⟨Cb, hCb⟩ : ∃ Cb, Cb = w2.heap.size := ⟨_, rfl⟩
      rw [← hCb] at kC hCw ⊢
      clear hCb
      replace kC := Rg.hid kC
      go_wp2
      go_loopw [9, 51] (fun vn vj wr => ∃ (j n : Nat), j ≤ i ∧ vj = .int .i64 j ∧ vn = .int .i64 n ∧ Hid (n = Ch.sumW (xs.take j) * (q + 1)) ∧ n ≤ j * 120000 ∧ Hid (Below w3.heap.size w3 wr)) (fun _ vj _ => i - (intOf vj).toNat)
      case atStart => exact ⟨0, 0, Nat.zero_le _, rfl, rfl, by show _ = _; simp [Ch.sumW], Nat.zero_le _, Below.refl _ _⟩
      case round =>
        obtain ⟨j, n, hjn, rfl, rfl, hn, hnj, hbj⟩ := hrel
        by_cases hlt : j < i
        · have hil : j < xs.length := by rw [← hN.out]; exact hlt
          have hiv : j < vs.length := by rw [hx.out.1]; exact hil
          obtain ⟨b1', o1, rfl⟩ := row_place (hr.out.row hiv) hiv
          obtain ⟨e0, e1, e2⟩ := irow_cells ((hr.out.row hiv).below (Rg.chain hb3.out hbj.out)) hiv
          have hst := (hx.out.2 j hiv hil)
          have hz0 : (0 : Int) ≤ (j : Int) := by omega
          have hz1 : (j : Int) < (i : Int) := by omega
          have hwx := hNear.out.wants xs[j] (List.getElem_mem hil)
          have hsum := Ch.sumW_take xs j hil
          have h1 := hst.n
          obtain ⟨sv, hsv⟩ : ∃ sv, vs[j] = sv := ⟨_, rfl⟩
          rw [hsv] at e0 e1 e2 h1
          obtain ⟨wa, wn, wcp, na, nn, ncp, ss⟩ := sv
          dsimp only at e0 e1 e2 h1
          rw [← h1] at hsum
          have hwn : wn ≤ 6000 := by rw [h1]; exact hwx.1
          have hbX := Rg.hid (Rg.chain hbj.out (Rg.al1 wr (.cells #[.slice wa wn wcp, .slice na nn ncp, .string ss] 45)))
          have kX : Rg.Bk wr.heap.size [.slice wa wn wcp, .slice na nn ncp, .string ss] 45 (wr.alloc (.cells #[.slice wa wn wcp, .slice na nn ncp, .string ss] 45)) := Rg.Bk.new rfl
          clear hst hwx hsv h1 hbj
          go_upto_region 15 with fail
          clear e0 e1 e2
          generalize World.alloc _ _ = w4 at *
          obtain ⟨X, hX⟩ : ∃ X, X = wr.heap.size := ⟨_, rfl⟩
          rw [← hX] at kX ⊢
          clear hX
          have x0 : w4.cell? ⟨X, 0, none⟩ = some (.slice wa wn wcp) := kX.cell 0
          obtain ⟨Q1, m, n2, hQ1, hm, hn2, hn4, t1, t1', t2, t2', t3, t3'⟩ := Ch.sums q wn n j hq20 hwn hnj (Nat.le_trans hjn hN60)
          have hn3 : Hid (n2 = Ch.sumW (xs.take (j + 1)) * (q + 1)) := by show _ = _; rw [hsum, Nat.add_mul, ← hn.out, hQ1, hm, hn2]
          clear kX hn hsum hm hn2 hQ1 hnj
          go_wp2
          go_roundw
          case rel => exact ⟨j + 1, n2, by omega, by go_num, (by first | rfl | go_num), hn3, hn4, hbX⟩
          case measure => simp [intOf]; omega
        · obtain rfl : j = i := by omega
          have hn2 := hn.out
          rw [List.take_of_length_le (by rw [hN.out]; exact Nat.le_refl _)] at hn2
          have hEn1 := hEn0.out
          rw [← hn2] at hEn1
          replace hEn1 := Rg.hid hEn1
          have kC4 := Rg.hid (kC.out.below hbj.out kC.out.lt)
          have hA4 := Rg.hid (hA3.out.below hbj.out)
          have hb4 := Rg.hid (Rg.chain hb3.out hbj.out)
          have hnb : n ≤ 7200000 := Nat.le_trans hnj (Nat.mul_le_mul_right 120000 hN60)
          clear hn hn2 hEn0 kC hA3 hb3 hbj hnj
          go_wp2
          go_loopw [66] (fun vt wr => ∃ (t : Nat) (ck : Ch.Co) (sa : Option Addr) (sn sc : Nat) (cstep cwant : Int) (cseen : ByteArray) (cwait cpat : Int) (cover cfailed : Bool), t ≤ n ∧ vt = .int .i64 t ∧ Hid (Rg.Bk Cb [.slice sa sn sc, .int .i64 cstep, .int .i64 cwant, .string cseen, .int .i64 cwait, .int .i64 cpat, .bool cover, .bool cfailed] 35 wr) ∧ Hid (CAt wr (.agg #[.slice sa sn sc, .int .i64 cstep, .int .i64 cwant, .string cseen, .int .i64 cwait, .int .i64 cpat, .bool cover, .bool cfailed]) ck) ∧ Hid (Ch.Ends xs q ck (n - t)) ∧ Hid (Below w.heap.size w wr)) (fun vt _ => n - (intOf vt).toNat)
          case atStart => exact ⟨0, c0, sa, sn, sc, cstep, cwant, cseen, cwait, cpat, cover, cfailed, Nat.zero_le _, rfl, kC4, hA4, hEn1, hb4⟩
          case round =>
            clear kC4 hA4 hb4 hEn1
            obtain ⟨t, ck, sa, sn, sc, cstep, cwant, cseen, cwait, cpat, cover, cfailed, htn, rfl, kC, hA, hEn, hbw⟩ := hrel
            have HT0 := fun W (hW : Below wr.heap.size wr W) => tick_any (.agg #[.slice sa sn sc, .int .i64 cstep, .int .i64 cwant, .string cseen, .int .i64 cwait, .int .i64 cpat, .bool cover, .bool cfailed]) ck W ((hE.out.below (Rg.chain hbw.out hW)).max) (tok_of hNear.out (Nat.le_trans hq20 (by decide)) hEn.out.1) (hA.out.below hW)
            by_cases hlt3 : t < n
            · have HT : Hid (∀ W, Below wr.heap.size wr W → Calls Tryd.prog 20 #[.agg #[.slice sa sn sc, .int .i64 cstep, .int .i64 cwant, .string cseen, .int .i64 cwait, .int .i64 cpat, .bool cover, .bool cfailed]] W fun e w' => GEx W (Ch.tick ck) e w') := fun W hW => (HT0 W hW).mono fun e w' q => q.ex
              unfold GEx at HT
              obtain ⟨k, hk, hk2⟩ := Ch.left n t hlt3
              have hEn2 := hEn.out
              rw [hk] at hEn2
              have hEn3 := Rg.hid (hEn2.tick hEv2.out)
              replace hk2 := Rg.hid hk2
              generalize Ch.tick ck = r at *
              obtain ⟨c1, o1⟩ := r
              dsimp only at HT hEn3
              generalize o1.toArray = ob at *
              clear HT0 hEn hEn2 hk hA
              have z0 : wr.cell? ⟨Cb, 0, none⟩ = some (.slice sa sn sc) := kC.out.cell 0
              have z1 : wr.cell? ⟨Cb, 1, none⟩ = some (.int .i64 cstep) := kC.out.cell 1
              have z2 : wr.cell? ⟨Cb, 2, none⟩ = some (.int .i64 cwant) := kC.out.cell 2
              have z3 : wr.cell? ⟨Cb, 3, none⟩ = some (.string cseen) := kC.out.cell 3
              have z4 : wr.cell? ⟨Cb, 4, none⟩ = some (.int .i64 cwait) := kC.out.cell 4
              have z5 : wr.cell? ⟨Cb, 5, none⟩ = some (.int .i64 cpat) := kC.out.cell 5
              have z6 : wr.cell? ⟨Cb, 6, none⟩ = some (.bool cover) := kC.out.cell 6
              have z7 : wr.cell? ⟨Cb, 7, none⟩ = some (.bool cfailed) := kC.out.cell 7
              go_upto_region 20 with (go_at_call 20; refine (HT.out _ (Below.refl _ _)).mono ?_; rintro e w7 ⟨sa', sn', sc', step', want', seen', wait', pat', over', failed', rfl, hA7, b7⟩; have kC7 := kC.out.below b7 kC.out.lt; have yf := kC7.thaw; have y0 := kC7.cell 0; have y1 := kC7.cell 1; have y2 := kC7.cell 2; have y3 := kC7.cell 3; have y4 := kC7.cell 4; have y5 := kC7.cell 5; have y6 := kC7.cell 6; have y7 := kC7.cell 7; simp only [List.getElem?_cons_zero, List.getElem?_cons_succ] at y0 y1 y2 y3 y4 y5 y6 y7)
              obtain ⟨kC8, o8⟩ := ret8 kC7 rfl (.slice sa' sn' sc') (.int .i64 step') (.int .i64 want') (.string seen') (.int .i64 wait') (.int .i64 pat') (.bool over') (.bool failed')
              have hA8 := Rg.hid (hA7.only kC7 o8)
              have hb8 := Rg.hid ((Rg.chain hbw.out b7).trans (o8.bel hCw))
              replace kC8 := Rg.hid kC8
              clear z0 z1 z2 z3 z4 z5 z6 z7 y0 y1 y2 y3 y4 y5 y6 y7 yf kC7 kC b7 HT o8 hA7 hbw
              generalize World.setCell _ _ _ = w8 at *
              go_wp2
              go_roundw
              case rel => exact ⟨t + 1, c1, sa', sn', sc', step', want', seen', wait', pat', over', failed', by omega, by go_num, kC8, hA8, by show Ch.Ends _ _ _ _; rw [← hk2.out]; exact hEn3.out, hb8⟩
              case measure => simp [intOf]; omega
            · obtain rfl : t = n := Nat.le_antisymm htn (Nat.le_of_not_lt hlt3)
              have hdn : Ch.done ck := by have := hEn.out; rw [Nat.sub_self] at this; exact this.zero
              have hfl := hA.out.flags
              have hdd : cover = true ∨ cfailed = true := by rw [hfl.1, hfl.2]; exact hdn
              rw [Ch.tick_done_ hdn] at HT0
              have HT : Hid (∀ W, Below wr.heap.size wr W → Calls Tryd.prog 20 #[.agg #[.slice sa sn sc, .int .i64 cstep, .int .i64 cwant, .string cseen, .int .i64 cwait, .int .i64 cpat, .bool cover, .bool cfailed]] W fun e w' => GEx W (ck, []) e w') := fun W hW => (HT0 W hW).mono fun e w' q => q.ex
              unfold GEx at HT
              dsimp only at HT
              have hst9 := hEn.out.1.steps
              have HSm : Hid (∀ W v1 v2, CAt W v1 ck → CAt W v2 ck → Calls Tryd.prog 19 #[v1, v2] W fun e w' => e = .returned (.bool true) ∧ Below W.heap.size W w') := fun W v1 v2 h1 h2 => same_any v1 v2 ck W h1 h2 (by rw [hst9]; exact Nat.le_trans hNear.out.len (by decide)) (fun x hx => by rw [hst9] at hx; exact ⟨Nat.le_trans (hNear.out.wants x hx).1 (by decide), Nat.le_trans (hNear.out.nudge x hx).1 (by decide)⟩)
              clear HT0 hEn hdn hfl hst9
              have z0 : wr.cell? ⟨Cb, 0, none⟩ = some (.slice sa sn sc) := kC.out.cell 0
              have z1 : wr.cell? ⟨Cb, 1, none⟩ = some (.int .i64 cstep) := kC.out.cell 1
              have z2 : wr.cell? ⟨Cb, 2, none⟩ = some (.int .i64 cwant) := kC.out.cell 2
              have z3 : wr.cell? ⟨Cb, 3, none⟩ = some (.string cseen) := kC.out.cell 3
              have z4 : wr.cell? ⟨Cb, 4, none⟩ = some (.int .i64 cwait) := kC.out.cell 4
              have z5 : wr.cell? ⟨Cb, 5, none⟩ = some (.int .i64 cpat) := kC.out.cell 5
              have z6 : wr.cell? ⟨Cb, 6, none⟩ = some (.bool cover) := kC.out.cell 6
              have z7 : wr.cell? ⟨Cb, 7, none⟩ = some (.bool cfailed) := kC.out.cell 7
              go_upto_region 22 with (go_at_call 20; refine (HT.out _ (Below.refl _ _)).mono ?_; rintro e w7 ⟨sa', sn', sc', step', want', seen', wait', pat', over', failed', rfl, hA7, b7⟩)
              have kD : Rg.Bk w7.heap.size [.slice sa' sn' sc', .int .i64 step', .int .i64 want', .string seen', .int .i64 wait', .int .i64 pat', .bool over', .bool failed'] 35 (w7.alloc (.cells #[.slice sa' sn' sc', .int .i64 step', .int .i64 want', .string seen', .int .i64 wait', .int .i64 pat', .bool over', .bool failed'] 35)) := Rg.Bk.new rfl
              have bD := Rg.al1 w7 (.cells #[.slice sa' sn' sc', .int .i64 step', .int .i64 want', .string seen', .int .i64 wait', .int .i64 pat', .bool over', .bool failed'] 35)
              have kC8 := (kC.out.below b7 kC.out.lt).old (.cells #[.slice sa' sn' sc', .int .i64 step', .int .i64 want', .string seen', .int .i64 wait', .int .i64 pat', .bool over', .bool failed'] 35)
              have hA8 := Rg.hid (hA7.below bD)
              have hAc := Rg.hid ((hA.out.below b7).below bD)
              have hb8 := Rg.hid (Rg.chain (Rg.chain hbw.out b7) bD)
              clear z0 z1 z2 z3 z4 z5 z6 z7 kC b7 HT hA7 hbw bD hA
              generalize World.alloc _ _ = w8 at *
              obtain ⟨Db, hDb⟩ : ∃ Db, Db = w7.heap.size := ⟨_, rfl⟩
              rw [← hDb] at kD ⊢
              clear hDb
              have HS2 := Rg.hid (HSm.out w8 _ _ hA8.out hAc.out)
              have z0 : w8.cell? ⟨Cb, 0, none⟩ = some (.slice sa sn sc) := kC8.cell 0
              have z1 : w8.cell? ⟨Cb, 1, none⟩ = some (.int .i64 cstep) := kC8.cell 1
              have z2 : w8.cell? ⟨Cb, 2, none⟩ = some (.int .i64 cwant) := kC8.cell 2
              have z3 : w8.cell? ⟨Cb, 3, none⟩ = some (.string cseen) := kC8.cell 3
              have z4 : w8.cell? ⟨Cb, 4, none⟩ = some (.int .i64 cwait) := kC8.cell 4
              have z5 : w8.cell? ⟨Cb, 5, none⟩ = some (.int .i64 cpat) := kC8.cell 5
              have z6 : w8.cell? ⟨Cb, 6, none⟩ = some (.bool cover) := kC8.cell 6
              have z7 : w8.cell? ⟨Cb, 7, none⟩ = some (.bool cfailed) := kC8.cell 7
              have x0 : w8.cell? ⟨Db, 0, none⟩ = some (.slice sa' sn' sc') := kD.cell 0
              have x1 : w8.cell? ⟨Db, 1, none⟩ = some (.int .i64 step') := kD.cell 1
              have x2 : w8.cell? ⟨Db, 2, none⟩ = some (.int .i64 want') := kD.cell 2
              have x3 : w8.cell? ⟨Db, 3, none⟩ = some (.string seen') := kD.cell 3
              have x4 : w8.cell? ⟨Db, 4, none⟩ = some (.int .i64 wait') := kD.cell 4
              have x5 : w8.cell? ⟨Db, 5, none⟩ = some (.int .i64 pat') := kD.cell 5
              have x6 : w8.cell? ⟨Db, 6, none⟩ = some (.bool over') := kD.cell 6
              have x7 : w8.cell? ⟨Db, 7, none⟩ = some (.bool failed') := kD.cell 7
              clear HSm hA8 hAc kC8 kD
              cases cover with
              | true =>
                clear hdd
                go_wp2_with (first
                  | (go_at_call 19; refine HS2.out.mono ?_; rintro e w9 ⟨rfl, b9⟩; have b10 := Rg.chain hb8.out b9)
                  | (go_at_call 9; refine (HA.out _ b10).mono ?_; rintro e w10 ⟨rfl, b11⟩))
                go_ret
                exact ⟨rfl, b11.out⟩
              | false =>
                have hcf : cfailed = true := by rcases hdd with h | h; (cases h); exact h
                subst hcf
                clear hdd
                go_wp2_with (first
                  | (go_at_call 19; refine HS2.out.mono ?_; rintro e w9 ⟨rfl, b9⟩; have b10 := Rg.chain hb8.out b9)
                  | (go_at_call 9; refine (HA.out _ b10).mono ?_; rintro e w10 ⟨rfl, b11⟩))
                go_ret
                exact ⟨rfl, b11.out⟩
end Go.Proofs.YtdclnimmfnlnhaaDoor
