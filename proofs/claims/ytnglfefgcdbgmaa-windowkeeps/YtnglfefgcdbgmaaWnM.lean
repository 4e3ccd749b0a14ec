/-
  Walks of layer 14's statements: WindowKeeps.
-/
import Derived.Test.YtnglfefgcdbgmaaWnL
import Derived.Test.YtnglfefgcdbgmaaWnA
namespace Go.Proofs.Ytnglfefgcdbgmaa
open Go.RowKit
theorem bk_ne {O V : Nat} {C C' : List Value} {W : World} (h : Rg.Bk O C 45 W) (k : Rg.Bk V C' 24 W) : O ≠ V := by
  intro e
  subst e
  unfold Rg.Bk at h k
  rw [h] at k
  simp at k
set_option maxHeartbeats 8000000 in
set_option maxRecDepth 100000 in
theorem keeps_big (p q : Int) (a : Option Addr) (cp : Nat) (w : World) (U r M U2 r2 Z N : Nat) (M1 : Int)
    (m0 : IntKind.u64.wrap p = (U : Int)) (m1 : (U : Int).tmod 63 = (r : Int)) (m2 : IntKind.i64.wrap (r : Int) = (r : Int)) (m3 : wrap64 (2 + (r : Int)) = (M : Int))
    (s0 : IntKind.u64.wrap q = (U2 : Int)) (s1 : wrap64 ((M : Int) - 1) = M1) (s2 : IntKind.u64.wrap M1 = M1) (s3 : ¬ M1 = 0) (s4 : (U2 : Int).tmod M1 = (r2 : Int)) (s5 : IntKind.i64.wrap (r2 : Int) = (r2 : Int)) (s6 : wrap64 (1 + (r2 : Int)) = (Z : Int)) (hN : decide ((200 : Int) < (N : Int)) = true) (HA : Hid (∀ W, Below w.heap.size w W → Calls Try.prog 13 #[] W fun e w' => e = .returned (.bool true) ∧ Below w.heap.size w w')) :
    Calls Try.prog 6 #[.int .i64 p, .int .i64 q, .slice a N cp] w fun e w' => e = .returned (.bool true) ∧ Below w.heap.size w w' := by
  go_enter Try.func6, Try.ntmps6
  go_wp2_with (go_at_call 13; refine (HA.out _ (Below.refl _ _)).mono ?_; rintro e w2 ⟨rfl, b2⟩)
  go_ret
  exact ⟨rfl, b2⟩
set_option maxHeartbeats 8000000 in
set_option maxRecDepth 100000 in
theorem keeps_core (p q : Int) (al : Option Addr) (cp : Nat) (l : List Wn.Op) (w : World) (U r M U2 r2 Z N : Nat) (M1 : Int)
    (m0 : IntKind.u64.wrap p = (U : Int)) (m1 : (U : Int).tmod 63 = (r : Int)) (m2 : IntKind.i64.wrap (r : Int) = (r : Int)) (m3 : wrap64 (2 + (r : Int)) = (M : Int))
    (s0 : IntKind.u64.wrap q = (U2 : Int)) (s1 : wrap64 ((M : Int) - 1) = M1) (s2 : IntKind.u64.wrap M1 = M1) (s3 : ¬ M1 = 0) (s4 : (U2 : Int).tmod M1 = (r2 : Int)) (s5 : IntKind.i64.wrap (r2 : Int) = (r2 : Int)) (s6 : wrap64 (1 + (r2 : Int)) = (Z : Int)) (hNl : Hid (N = l.length)) (hN : decide ((200 : Int) < (N : Int)) = false) (hN2 : N ≤ 200) (hrl : Hid (ORow w al l)) (HA : Hid (∀ W, Below w.heap.size w W → Calls Try.prog 13 #[] W fun e w' => e = .returned (.bool true) ∧ Below w.heap.size w w'))
    (HB : Hid (∀ W, Calls Try.prog 8 #[.int .i64 (M : Int), .int .i64 (Z : Int), .int .i64 0] W fun e w' => e = .returned (.tuple #[.agg #[.int .i64 (M : Int), .int .i64 (Z : Int), .int .i64 0, .slice none 0 0], .int .i64 0]) ∧ Below W.heap.size W w')) (kp0 : Hid (Wn.KP M Z ⟨M, Z, 0, []⟩ [] 0 0 0)) :
    Calls Try.prog 6 #[.int .i64 p, .int .i64 q, .slice al N cp] w fun e w' => e = .returned (.bool true) ∧ Below w.heap.size w w' := by
  go_enter Try.func6, Try.ntmps6
  go_upto_region 5 with fail
  simp only [m3, s6]
  clear m0 m1 m2 m3 s0 s1 s2 s3 s4 s5 s6
  go_upto_region 6 with (go_at_call 8; refine (HB.out _).mono ?_; rintro e w1 ⟨rfl, b1⟩)
  have v1 : Hid (VarAt w (w1.alloc (.cells #[.int .i64 (M : Int), .int .i64 (Z : Int), .int .i64 0, .slice none 0 0] 24)) w1.heap.size ⟨M, Z, 0, []⟩ none 0) := VarAt.make (X := ⟨M, Z, 0, []⟩) b1 ⟨.nil, Nat.le_refl _⟩
  have k1 : Hid (KI w (w1.alloc (.cells #[.int .i64 (M : Int), .int .i64 (Z : Int), .int .i64 0, .slice none 0 0] 24)) w1.heap.size ⟨M, Z, 0, []⟩ none 0 none 0 []) := ⟨v1.out, .inl ⟨rfl, rfl, rfl⟩, fun h => absurd rfl h⟩
  obtain ⟨V, hV⟩ : ∃ V, V = w1.heap.size := ⟨_, rfl⟩
  rw [← hV] at k1 ⊢
  generalize World.alloc _ _ = w2 at *
  clear hV HB v1 b1
  go_wp2
  go_loopw [9, 10, 11, 53] (fun v9 v10 v11 vi wx => ∃ (i n inn out : Nat) (A : Option Addr) (cap : Nat) (X : Wn.W) (a : Option Addr) (c : Nat) (S : List Wn.Op), i ≤ N ∧ vi = .int .i64 i ∧ v9 = .slice A n cap ∧ v10 = .int .i64 inn ∧ v11 = .int .i64 out ∧ Hid (KI w wx V X a c A cap S) ∧ Hid (Wn.KP M Z X S n inn out) ∧ inn ≤ i) (fun _ _ _ vi _ => N - (intOf vi).toNat)
  case atStart => exact ⟨0, 0, 0, 0, none, 0, _, none, 0, [], Nat.zero_le _, rfl, rfl, rfl, rfl, k1, kp0, Nat.le_refl _⟩
  case round =>
    obtain ⟨i, n, inn, out, A, cap, X, a, c, S, hin, rfl, rfl, rfl, rfl, kI, kP, hii⟩ := hrel
    clear k1 kp0
    have hn64 := kP.out.small.2
    have hout : out ≤ inn := by have := kP.out.sum; omega
    by_cases hlt : i < N
    · have hil : i < l.length := by rw [← hNl.out]; exact hlt
      obtain ⟨lb, lo, rfl, _, x0, x1, x2⟩ := (hrl.out.below kI.out.var.bel).cell hil
      generalize l[i] = op at *
      obtain ⟨ok, on, os⟩ := op
      dsimp only at x0 x1 x2
      have iz0 : (0 : Int) ≤ (i : Int) := by omega
      have iz1 : (i : Int) < (N : Int) := by omega
      have bO := Rg.al1 wr (.cells #[.int .i64 ok, .int .i64 on, .string os] 45)
      have kO : Hid (Rg.Bk wr.heap.size [.int .i64 ok, .int .i64 on, .string os] 45 (wr.alloc (.cells #[.int .i64 ok, .int .i64 on, .string os] 45))) := Rg.Bk.new rfl
      have kI1 := Rg.hid (kI.out.below bO)
      clear hil bO kI
      go_upto_region 13 with fail
      generalize World.alloc _ _ = w3 at *
      obtain ⟨O, hO⟩ : ∃ O, O = wr.heap.size := ⟨_, rfl⟩
      rw [← hO] at kO ⊢
      clear hO x0 x1 x2
      have o0 : w3.cell? ⟨O, 0, none⟩ = some (.int .i64 ok) := kO.out.cell 0
      have o1 : w3.cell? ⟨O, 1, none⟩ = some (.int .i64 on) := kO.out.cell 1
      have o2 : w3.cell? ⟨O, 2, none⟩ = some (.string os) := kO.out.cell 2
      by_cases hos : 200 < os.size
      · have d1 : decide ((200 : Int) < (os.size : Int)) = true := by simp; omega
        go_wp2_with (go_at_call 13; refine (HA.out _ kI1.out.var.bel).mono ?_; rintro e w4 ⟨rfl, b4⟩)
        go_ret
        exact ⟨rfl, b4⟩
      · have d1 : decide ((200 : Int) < (os.size : Int)) = false := by simp; omega
        by_cases hk1 : ok = 1
        · subst hk1
          obtain ⟨Y, hY⟩ : ∃ Y, Y = (Wn.ack X on).1 := ⟨_, rfl⟩
          obtain ⟨K, hK⟩ : ∃ K, K = (Wn.ack X on).2 := ⟨_, rfl⟩
          have HAk := ack_in w w3 V X a c A cap S on kI1.out
          obtain ⟨hKn, kP5, hlast⟩ := kP.out.ack on
          rw [← hY, ← hK] at HAk kP5
          rw [← hK] at hKn hlast
          unfold WV at HAk
          clear hY hK
          replace HAk := Rg.hid HAk
          replace kP5 := Rg.hid kP5
          replace hlast := Rg.hid hlast
          obtain ⟨v0, v1, v2, v3, vf⟩ := kI1.out.var.cells
          go_upto_region 17 with (go_at_call 17; refine HAk.out.mono ?_; rintro e u4 ⟨a', c', rfl, kI4, fr4, b4⟩)
          have bb := Rg.al1 u4 (.cells #[.int .i64 Y.md, .int .i64 Y.sz, .int .i64 Y.bs, .slice a' Y.l.length c'] 24)
          have kZ : Hid (Rg.Bk u4.heap.size [.int .i64 Y.md, .int .i64 Y.sz, .int .i64 Y.bs, .slice a' Y.l.length c'] 24 (u4.alloc (.cells #[.int .i64 Y.md, .int .i64 Y.sz, .int .i64 Y.bs, .slice a' Y.l.length c'] 24))) := Rg.Bk.new rfl
          have kI5 := Rg.hid (kI4.out.below bb)
          have fr5 := Rg.hid (fr4.out.below bb)
          have kO5 := Rg.hid (kO.out.below (Rg.chain b4.out bb) kO.out.lt)
          generalize World.alloc _ _ = w5 at *
          obtain ⟨Q, hQ⟩ : ∃ Q, Q = u4.heap.size := ⟨_, rfl⟩
          rw [← hQ] at kZ ⊢
          clear hQ bb b4 kI4 fr4 kI1 kO HAk v0 v1 v2 v3 vf o0 o1 o2
          obtain ⟨v0, v1, v2, v3, vf⟩ := kI5.out.var.cells
          have q0 : w5.cell? ⟨Q, 0, none⟩ = some (.int .i64 Y.md) := kZ.out.cell 0
          have q1 : w5.cell? ⟨Q, 1, none⟩ = some (.int .i64 Y.sz) := kZ.out.cell 1
          have q2 : w5.cell? ⟨Q, 2, none⟩ = some (.int .i64 Y.bs) := kZ.out.cell 2
          have q3 : w5.cell? ⟨Q, 3, none⟩ = some (.slice a' Y.l.length c') := kZ.out.cell 3
          have kI6 := Rg.hid (kI5.out.store fr5.out)
          have kO6 : Hid (Rg.Bk O [.int .i64 1, .int .i64 on, .string os] 45 (Set4 w5 V Y a' c')) := kO5.out.same ((Rg.ret4 kI5.out.var.bk rfl (.int .i64 Y.md) (.int .i64 Y.sz) (.int .i64 Y.bs) (.slice a' Y.l.length c')).2.block O (bk_ne kO5.out kI5.out.var.bk))
          unfold Set4 at kI6 kO6
          clear kI5 fr5 kO5 kZ
          go_upto_region 18 with fail
          generalize World.setCell _ _ _ = w6 at *
          clear v0 v1 v2 v3 vf q0 q1 q2 q3
          go_wp2
          go_loopw [16, 78] (fun vk vj wx => ∃ (j kk : Nat), j ≤ n ∧ vj = .int .i64 j ∧ vk = .int .i64 kk ∧ Hid (Wn.lastAt on ((Wn.waits X).drop j) j kk = K) ∧ Hid (KI w wx V Y a' c' A cap S) ∧ Hid (Rg.Bk O [.int .i64 1, .int .i64 on, .string os] 45 wx)) (fun _ vj _ => n - (intOf vj).toNat)
          case atStart => exact ⟨0, 0, Nat.zero_le _, rfl, rfl, hlast, kI6, kO6⟩
          case round =>
            obtain ⟨j, kk, hjn, rfl, rfl, hlj, kj, kOj⟩ := hrel
            by_cases hj : j < n
            · have hjS : j < S.length := by rw [← kP.out.len]; exact hj
              have hst := Rg.hid (Wn.lastAt_step (X := X) (k := on) (j := j) (kk := kk) (by rw [← kP.out.ws]; exact hjS))
              obtain ⟨yb, yo, hAy, _, y0, y1, y2⟩ := kj.out.ws.row.cell hjS
              have hSj : S[j] = (Wn.wops X)[j]'(by rw [← kP.out.ws]; exact hjS) := by have e := kP.out.ws; subst e; rfl
              rw [← hSj] at hst
              obtain ⟨yy, hyy⟩ : ∃ yy, yy = S[j] := ⟨_, rfl⟩
              rw [← hyy] at y0 y1 y2 hst
              obtain ⟨yk, yn, ys⟩ := yy
              dsimp only at y0 y1 y2 hst
              have iz0 : (0 : Int) ≤ (j : Int) := by omega
              have iz1 : (j : Int) < (n : Int) := by omega
              have hl2 : Hid (Wn.lastAt on ((Wn.waits X).drop (j + 1)) (j + 1) (if yn = on then j + 1 else kk) = K) := by show _ = _; rw [← hst.out]; exact hlj.out
              clear hyy hjS hSj hst hlj
              cases hAy
              have bY := Rg.al1 wr (.cells #[.int .i64 yk, .int .i64 yn, .string ys] 45)
              have kY : Hid (Rg.Bk wr.heap.size [.int .i64 yk, .int .i64 yn, .string ys] 45 (wr.alloc (.cells #[.int .i64 yk, .int .i64 yn, .string ys] 45))) := Rg.Bk.new rfl
              have kj1 := Rg.hid (kj.out.below bY)
              have kOj1 := Rg.hid (kOj.out.old (.cells #[.int .i64 yk, .int .i64 yn, .string ys] 45))
              clear bY kj kOj
              go_upto_region 23 with fail
              generalize World.alloc _ _ = w8 at *
              obtain ⟨D, hD⟩ : ∃ D, D = wr.heap.size := ⟨_, rfl⟩
              rw [← hD] at kY ⊢
              clear hD y0 y1 y2
              have y1 : w8.cell? ⟨D, 1, none⟩ = some (.int .i64 yn) := kY.out.cell 1
              have o1 : w8.cell? ⟨O, 1, none⟩ = some (.int .i64 on) := kOj1.out.cell 1
              by_cases hyn : yn = on
              · have d3 : (yn == on) = true := by simp [hyn]
                rw [if_pos hyn] at hl2
                clear hyn
                go_wp2
                go_roundw
                case rel => exact ⟨j + 1, j + 1, by omega, by go_num, by go_num, hl2, kj1, kOj1⟩
                case measure => simp [intOf]; omega
              · have d3 : (yn == on) = false := by simp [hyn]
                rw [if_neg hyn] at hl2
                clear hyn
                go_wp2
                go_roundw
                case rel => exact ⟨j + 1, kk, by omega, by go_num, rfl, hl2, kj1, kOj1⟩
                case measure => simp [intOf]; omega
            · obtain rfl : j = n := by omega
              have hKk : kk = K := by
                have e := hlj.out
                rw [List.drop_of_length_le (by rw [Wn.waits_len, ← kP.out.small.1]; exact Nat.le_refl _)] at e
                exact e
              subst hKk
              have kP6 := kP5
              have q1 : (0 : Int) ≤ (kk : Int) := by omega
              have q2 : (kk : Int) ≤ (j : Int) := by omega
              have hko : out + kk ≤ 300 := by omega
              clear hlj hlast kOj kO6 kI6
              rcases kj.out.ws with ⟨hA0, hS0, hc0⟩ | ⟨g, o, C, hA0, hOO⟩
              · have hj0 : j = 0 := by have := kP.out.len; rw [hS0] at this; exact this
                subst hA0 hc0 hj0
                obtain rfl : kk = 0 := by omega
                rw [hS0] at kP6 kj
                replace kP6 : Hid (Wn.KP M Z Y [] 0 inn (out + 0)) := kP6
                clear kP5 kP hn64 hS0
                go_wp2
                go_loopw [119] (fun vj wx => ∃ j : Nat, j ≤ 0 ∧ vj = .int .i64 j ∧ Hid (KI w wx V Y a' c' none 0 ([] : List Wn.Op))) (fun vj _ => 0 - (intOf vj).toNat)
                case atStart => exact ⟨0, Nat.zero_le _, rfl, kj⟩
                case round =>
                  obtain ⟨j, hjn, rfl, kj⟩ := hrel
                  obtain rfl : j = 0 := by omega
                  go_wp2
                  go_roundw
                  case rel => exact ⟨i + 1, 0, inn, out + 0, _, _, _, _, _, _, by omega, by go_num, rfl, rfl, by go_num, kj, kP6, by omega⟩
                  case measure => simp [intOf]; omega

              · subst hA0
                by_cases hck : cap = kk
                · have hle := hOO.le
                  have hjl := kP.out.len
                  obtain rfl : j = kk := by omega
                  subst hck
                  have hSd : S.drop cap = [] := List.drop_of_length_le (by omega)
                  rw [hSd, Nat.sub_self] at kP6
                  have kj0 := Rg.hid kj.out.gone
                  clear kP5 kP hle hjl hSd hOO kj
                  go_wp2
                  go_loopw [119] (fun vj wx => ∃ j : Nat, j ≤ 0 ∧ vj = .int .i64 j ∧ Hid (KI w wx V Y a' c' (some ⟨g, o, none⟩) 0 ([] : List Wn.Op))) (fun vj _ => 0 - (intOf vj).toNat)
                  case atStart => exact ⟨0, Nat.zero_le _, rfl, kj0⟩
                  case round =>
                    obtain ⟨j, hjn, rfl, kj⟩ := hrel
                    obtain rfl : j = 0 := by omega
                    go_wp2
                    go_roundw
                    case rel => exact ⟨i + 1, 0, inn, out + cap, _, _, _, _, _, _, by omega, by go_num, rfl, rfl, by go_num, kj, kP6, by omega⟩
                    case measure => simp [intOf]; omega

                · have kj0 := Rg.hid (kj.out.drop kk (by rw [← kP.out.len]; omega))
                  obtain ⟨S2, hS2⟩ : ∃ S2, S2 = S.drop kk := ⟨_, rfl⟩
                  obtain ⟨n2, hn2⟩ : ∃ n2, j - kk = n2 := ⟨_, rfl⟩
                  have hn2' : n2 ≤ 64 := by omega
                  rw [← hS2] at kj0 kP6
                  rw [hn2] at kP6
                  clear kP5 kP hOO kj hS2
                  go_wp2
                  go_loopw [119] (fun vj wx => ∃ j : Nat, j ≤ n2 ∧ vj = .int .i64 j ∧ Hid (KI w wx V Y a' c' (some ⟨g, o + kk * 3, none⟩) (cap - kk) S2)) (fun vj _ => n2 - (intOf vj).toNat)
                  case atStart => exact ⟨0, Nat.zero_le _, rfl, kj0⟩
                  case round =>
                    obtain ⟨j, hjn, rfl, kj⟩ := hrel
                    by_cases hj : j < n2
                    · have hjS : j < (S2).length := by rw [← kP6.out.len]; exact hj
                      obtain ⟨yb, yo, hAy, _, y0, y1, y2⟩ := kj.out.ws.row.cell hjS
                      have hfv := Rg.hid (kP6.out.get hjS)
                      obtain ⟨yy, hyy⟩ : ∃ yy, yy = (S2)[j] := ⟨_, rfl⟩
                      rw [← hyy] at y0 y1 y2 hfv
                      obtain ⟨yk, yn, ys⟩ := yy
                      dsimp only at y0 y1 y2 hfv
                      have iz0 : (0 : Int) ≤ (j : Int) := by omega
                      have iz1 : (j : Int) < (n2 : Int) := by omega
                      clear hyy hjS
                      cases hAy
                      have bY := Rg.al1 wr (.cells #[.int .i64 yk, .int .i64 yn, .string ys] 45)
                      have kY : Hid (Rg.Bk wr.heap.size [.int .i64 yk, .int .i64 yn, .string ys] 45 (wr.alloc (.cells #[.int .i64 yk, .int .i64 yn, .string ys] 45))) := Rg.Bk.new rfl
                      have kj1 := Rg.hid (kj.out.below bY)
                      clear bY kj
                      go_upto_region 37 with fail
                      generalize World.alloc _ _ = w8 at *
                      obtain ⟨D, hD⟩ : ∃ D, D = wr.heap.size := ⟨_, rfl⟩
                      rw [← hD] at kY ⊢
                      clear hD y0 y1 y2
                      have HFi := find_in _ _ _ _ _ _ _ _ _ yn kj1.out
                      rw [hfv.out] at HFi
                      unfold WV at HFi
                      replace HFi := Rg.hid HFi
                      obtain ⟨v0, v1, v2, v3, _⟩ := kj1.out.var.cells
                      have y1 : w8.cell? ⟨D, 1, none⟩ = some (.int .i64 yn) := kY.out.cell 1
                      clear hfv
                      go_wp2_with (go_at_call 19; refine HFi.out.mono ?_; rintro e w9 ⟨rfl, kj9, b9⟩; have y2 : w9.cell? ⟨D, 2, none⟩ = some (.string ys) := (kY.out.below b9.out kY.out.lt).cell 2)
                      go_roundw
                      case rel => first | exact ⟨j + 1, by omega, by go_num, kj9⟩ | ((repeat apply Exists.intro); exact ⟨⟨j + 1, by omega, by go_num, kj9⟩, rfl⟩)
                      case measure => simp [intOf]; omega
                    · obtain rfl : j = n2 := by omega
                      go_wp2
                      go_roundw
                      case rel => exact ⟨i + 1, j, inn, out + kk, _, _, _, _, _, _, by omega, by go_num, rfl, rfl, by go_num, kj, kP6, by omega⟩
                      case measure => simp [intOf]; omega

        · have d2 : (ok == 1) = false := by simp [hk1]
          obtain ⟨Y, hY⟩ : ∃ Y, Y = (Wn.put X os).1 := ⟨_, rfl⟩
          obtain ⟨P, hP⟩ : ∃ P, P = (Wn.put X os).2.1 := ⟨_, rfl⟩
          obtain ⟨E, hE⟩ : ∃ E, E = (Wn.put X os).2.2 := ⟨_, rfl⟩
          have HPu := put_in w w3 V X a c A cap S os kI1.out
          have kput := kP.out.put os
          rw [← hY, ← hP, ← hE] at HPu kput
          unfold WV at HPu
          clear hY hP hE
          replace HPu := Rg.hid HPu
          obtain ⟨v0, v1, v2, v3, vf⟩ := kI1.out.var.cells
          go_upto_region 30 with (go_at_call 15; refine HPu.out.mono ?_; rintro e u4 ⟨a', c', rfl, kI4, fr4, b4⟩)
          have bb := Rg.al1 u4 (.cells #[.int .i64 Y.md, .int .i64 Y.sz, .int .i64 Y.bs, .slice a' Y.l.length c'] 24)
          have kZ : Hid (Rg.Bk u4.heap.size [.int .i64 Y.md, .int .i64 Y.sz, .int .i64 Y.bs, .slice a' Y.l.length c'] 24 (u4.alloc (.cells #[.int .i64 Y.md, .int .i64 Y.sz, .int .i64 Y.bs, .slice a' Y.l.length c'] 24))) := Rg.Bk.new rfl
          have kI5 := Rg.hid (kI4.out.below bb)
          have fr5 := Rg.hid (fr4.out.below bb)
          have kO5 := Rg.hid (kO.out.below (Rg.chain b4.out bb) kO.out.lt)
          generalize World.alloc _ _ = w5 at *
          obtain ⟨Q, hQ⟩ : ∃ Q, Q = u4.heap.size := ⟨_, rfl⟩
          rw [← hQ] at kZ ⊢
          clear hQ bb b4 kI4 fr4 kI1 kO HPu v0 v1 v2 v3 vf o0 o1 o2
          rcases kput with ⟨hE0, kP5⟩ | hE8
          · subst hE0
            replace kP5 := Rg.hid kP5
            obtain ⟨v0, v1, v2, v3, vf⟩ := kI5.out.var.cells
            have q0 : w5.cell? ⟨Q, 0, none⟩ = some (.int .i64 Y.md) := kZ.out.cell 0
            have q1 : w5.cell? ⟨Q, 1, none⟩ = some (.int .i64 Y.sz) := kZ.out.cell 1
            have q2 : w5.cell? ⟨Q, 2, none⟩ = some (.int .i64 Y.bs) := kZ.out.cell 2
            have q3 : w5.cell? ⟨Q, 3, none⟩ = some (.slice a' Y.l.length c') := kZ.out.cell 3
            have kI6 := Rg.hid (kI5.out.store fr5.out)
            have kO6 : Hid (Rg.Bk O [.int .i64 ok, .int .i64 on, .string os] 45 (Set4 w5 V Y a' c')) := kO5.out.same ((Rg.ret4 kI5.out.var.bk rfl (.int .i64 Y.md) (.int .i64 Y.sz) (.int .i64 Y.bs) (.slice a' Y.l.length c')).2.block O (bk_ne kO5.out kI5.out.var.bk))
            unfold Set4 at kI6 kO6
            clear kI5 fr5 kO5 kZ
            go_upto_region 33 with fail
            generalize World.setCell _ _ _ = w6 at *
            clear v0 v1 v2 v3 vf q0 q1 q2 q3
            have bX := Rg.al1 w6 (.cells #[.int .i64 0, .int .i64 P, .string os] 45)
            have hx : Rg.At (w6.alloc (.cells #[.int .i64 0, .int .i64 P, .string os] 45)) w6.heap.size 0 (opE.enc ⟨0, P, os⟩) := by
              have kb : Rg.Bk w6.heap.size [.int .i64 0, .int .i64 P, .string os] 45 (w6.alloc (.cells #[.int .i64 0, .int .i64 P, .string os] 45)) := Rg.Bk.new rfl
              intro t u ht
              rw [Nat.zero_add, kb.cell, ← ht]
              rfl
            obtain ⟨v', w7, hap, A', cap', hv', kI7⟩ := (kI6.out.below bX).append ⟨0, P, os⟩ w6.heap.size n hx kP.out.len (by omega)
            subst hv'
            replace hap := Rg.hid hap
            have o2 : w6.cell? ⟨O, 2, none⟩ = some (.string os) := kO6.out.cell 2
            obtain ⟨n1, hn1⟩ : ∃ n1, n1 = n + 1 := ⟨_, rfl⟩
            have hn1' : n1 ≤ 70 := by omega
            obtain ⟨S1, hS1⟩ : ∃ S1, S1 = S ++ [⟨0, P, os⟩] := ⟨_, rfl⟩
            rw [← hn1] at hap kP5
            rw [← hS1] at kI7 kP5
            clear bX hx kI6 kO6 hn1 hS1 kP hn64
            go_upto_region 34 with (at_builtin; refine Rg.wpList_append_run rfl (.tmp 110) (.tmp 115) 42 rfl _ _ rfl rfl _ _ hap.out ?_)
            clear hap o2
            go_wp2
            go_loopw [119] (fun vj wx => ∃ j : Nat, j ≤ n1 ∧ vj = .int .i64 j ∧ Hid (KI w wx V Y a' c' A' cap' S1)) (fun vj _ => n1 - (intOf vj).toNat)
            case atStart => exact ⟨0, Nat.zero_le _, rfl, kI7⟩
            case round =>
              obtain ⟨j, hjn, rfl, kj⟩ := hrel
              by_cases hj : j < n1
              · have hjS : j < (S1).length := by rw [← kP5.out.len]; exact hj
                obtain ⟨yb, yo, hAy, _, y0, y1, y2⟩ := kj.out.ws.row.cell hjS
                have hfv := Rg.hid (kP5.out.get hjS)
                obtain ⟨yy, hyy⟩ : ∃ yy, yy = (S1)[j] := ⟨_, rfl⟩
                rw [← hyy] at y0 y1 y2 hfv
                obtain ⟨yk, yn, ys⟩ := yy
                dsimp only at y0 y1 y2 hfv
                have iz0 : (0 : Int) ≤ (j : Int) := by omega
                have iz1 : (j : Int) < (n1 : Int) := by omega
                clear hyy hjS
                cases hAy
                have bY := Rg.al1 wr (.cells #[.int .i64 yk, .int .i64 yn, .string ys] 45)
                have kY : Hid (Rg.Bk wr.heap.size [.int .i64 yk, .int .i64 yn, .string ys] 45 (wr.alloc (.cells #[.int .i64 yk, .int .i64 yn, .string ys] 45))) := Rg.Bk.new rfl
                have kj1 := Rg.hid (kj.out.below bY)
                clear bY kj
                go_upto_region 37 with fail
                generalize World.alloc _ _ = w8 at *
                obtain ⟨D, hD⟩ : ∃ D, D = wr.heap.size := ⟨_, rfl⟩
                rw [← hD] at kY ⊢
                clear hD y0 y1 y2
                have HFi := find_in _ _ _ _ _ _ _ _ _ yn kj1.out
                rw [hfv.out] at HFi
                unfold WV at HFi
                replace HFi := Rg.hid HFi
                obtain ⟨v0, v1, v2, v3, _⟩ := kj1.out.var.cells
                have y1 : w8.cell? ⟨D, 1, none⟩ = some (.int .i64 yn) := kY.out.cell 1
                clear hfv
                go_wp2_with (go_at_call 19; refine HFi.out.mono ?_; rintro e w9 ⟨rfl, kj9, b9⟩; have y2 : w9.cell? ⟨D, 2, none⟩ = some (.string ys) := (kY.out.below b9.out kY.out.lt).cell 2)
                go_roundw
                case rel => first | exact ⟨j + 1, by omega, by go_num, kj9⟩ | ((repeat apply Exists.intro); exact ⟨⟨j + 1, by omega, by go_num, kj9⟩, rfl⟩)
                case measure => simp [intOf]; omega
              · obtain rfl : j = n1 := by omega
                go_wp2
                go_roundw
                case rel => exact ⟨i + 1, j, inn + 1, out, _, _, _, _, _, _, by omega, by go_num, rfl, by go_num, rfl, kj, kP5, by omega⟩
                case measure => simp [intOf]; omega
          · subst hE8
            go_wp2
            go_loopw [119] (fun vj wx => ∃ j : Nat, j ≤ n ∧ vj = .int .i64 j ∧ Hid (KI w wx V X a c A cap S)) (fun vj _ => n - (intOf vj).toNat)
            case atStart => exact ⟨0, Nat.zero_le _, rfl, kI5⟩
            case round =>
              obtain ⟨j, hjn, rfl, kj⟩ := hrel
              by_cases hj : j < n
              · have hjS : j < (S).length := by rw [← kP.out.len]; exact hj
                obtain ⟨yb, yo, hAy, _, y0, y1, y2⟩ := kj.out.ws.row.cell hjS
                have hfv := Rg.hid (kP.out.get hjS)
                obtain ⟨yy, hyy⟩ : ∃ yy, yy = (S)[j] := ⟨_, rfl⟩
                rw [← hyy] at y0 y1 y2 hfv
                obtain ⟨yk, yn, ys⟩ := yy
                dsimp only at y0 y1 y2 hfv
                have iz0 : (0 : Int) ≤ (j : Int) := by omega
                have iz1 : (j : Int) < (n : Int) := by omega
                clear hyy hjS
                cases hAy
                have bY := Rg.al1 wr (.cells #[.int .i64 yk, .int .i64 yn, .string ys] 45)
                have kY : Hid (Rg.Bk wr.heap.size [.int .i64 yk, .int .i64 yn, .string ys] 45 (wr.alloc (.cells #[.int .i64 yk, .int .i64 yn, .string ys] 45))) := Rg.Bk.new rfl
                have kj1 := Rg.hid (kj.out.below bY)
                clear bY kj
                go_upto_region 37 with fail
                generalize World.alloc _ _ = w8 at *
                obtain ⟨D, hD⟩ : ∃ D, D = wr.heap.size := ⟨_, rfl⟩
                rw [← hD] at kY ⊢
                clear hD y0 y1 y2
                have HFi := find_in _ _ _ _ _ _ _ _ _ yn kj1.out
                rw [hfv.out] at HFi
                unfold WV at HFi
                replace HFi := Rg.hid HFi
                obtain ⟨v0, v1, v2, v3, _⟩ := kj1.out.var.cells
                have y1 : w8.cell? ⟨D, 1, none⟩ = some (.int .i64 yn) := kY.out.cell 1
                clear hfv
                go_wp2_with (go_at_call 19; refine HFi.out.mono ?_; rintro e w9 ⟨rfl, kj9, b9⟩; have y2 : w9.cell? ⟨D, 2, none⟩ = some (.string ys) := (kY.out.below b9.out kY.out.lt).cell 2)
                go_roundw
                case rel => first | exact ⟨j + 1, by omega, by go_num, kj9⟩ | ((repeat apply Exists.intro); exact ⟨⟨j + 1, by omega, by go_num, kj9⟩, rfl⟩)
                case measure => simp [intOf]; omega
              · obtain rfl : j = n := by omega
                go_wp2
                go_roundw
                case rel => exact ⟨i + 1, j, inn, out, _, _, _, _, _, _, by omega, by go_num, rfl, rfl, rfl, kj, kP, by omega⟩
                case measure => simp [intOf]; omega

    · have hsum := kP.out.sum
      have hnX := kP.out.small.1
      have t0 : wrap64 ((inn : Int) - (out : Int)) = (n : Int) := by rw [hsum]; unfold wrap64; omega
      have t1 : ((X.l.length : Int) == (n : Int)) = true := by rw [← hnX]; simp
      have t2 : (X.l.length == n) = true := by rw [← hnX]; simp
      obtain ⟨v0, v1, v2, v3, vf⟩ := kI.out.var.cells
      replace hsum := Rg.hid hsum
      replace hnX := Rg.hid hnX
      have hbA := Rg.hid kI.out.var.bel
      clear kP kI v0 v1 v2 hsum hout
      go_wp2_with (go_at_call 13; refine (HA.out _ hbA.out).mono ?_; rintro e w4 ⟨rfl, b4⟩)
      go_ret
      exact ⟨rfl, b4⟩
end Go.Proofs.Ytnglfefgcdbgmaa
