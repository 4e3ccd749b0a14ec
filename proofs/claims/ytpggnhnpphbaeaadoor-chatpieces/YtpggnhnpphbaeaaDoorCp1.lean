/-
  Layer 8's statement ChatPieces: the walk.
-/
import Derived.Test.YtpggnhnpphbaeaaDoorCh33
import Derived.Test.YtpggnhnpphbaeaaDoorMathP8
namespace Go.Proofs.YtpggnhnpphbaeaaDoor
open Go.RowKit

/-- a row of numbers that is read -/
def NRow9 (W : World) (a : Option Addr) (l : List Int) : Prop := l = [] ∨ ∃ b o, a = some ⟨b, o, none⟩ ∧ b < W.heap.size ∧ ∀ (i : Nat) (h : i < l.length), W.cell? ⟨b, o + i, none⟩ = some (.int .i64 l[i])
theorem NRow9.at {W W' : World} {a : Option Addr} {l : List Int} (h : NRow9 W a l) (hb : Below W.heap.size W W') {i : Nat} (hi : i < l.length) : ∃ b o, a = some ⟨b, o, none⟩ ∧ W'.cell? ⟨b, o + i, none⟩ = some (.int .i64 l[i]) := by
  rcases h with rfl | ⟨b, o, e, hlt, hc⟩
  · simp at hi
  · exact ⟨b, o, e, by rw [World.cell?_of_block (a := ⟨b, o + i, none⟩) (hb.block b hlt)]; exact hc i hi⟩
theorem Ch.rmod (x : Int) (n : Nat) (hn : n ≤ 2000) : ∃ (F : Nat) (U : Int) (M : Int), IntKind.u64.wrap x = U ∧ IntKind.u64.wrap ((n : Int) + 1) = M ∧ IntKind.i64.wrap ((n : Int) + 1) = (n : Int) + 1 ∧ U.tmod M = (F : Int) ∧ U % M = (F : Int) ∧ F ≤ n ∧ IntKind.i64.wrap (F : Int) = (F : Int) ∧ (M == 0) = false ∧ ¬ M = 0 := by
  have h : 0 ≤ IntKind.u64.wrap x := by rw [IntKind.wrap_u64]; omega
  have hM : IntKind.u64.wrap ((n : Int) + 1) = (n : Int) + 1 := by rw [IntKind.wrap_u64]; omega
  have hp : (0 : Int) < (n : Int) + 1 := by omega
  have h1 := Int.emod_nonneg (IntKind.u64.wrap x) (show (n : Int) + 1 ≠ 0 by omega)
  have h2 := Int.emod_lt_of_pos (IntKind.u64.wrap x) hp
  refine ⟨(IntKind.u64.wrap x % ((n : Int) + 1)).toNat, _, (n : Int) + 1, rfl, hM, ?_, ?_, ?_, ?_, ?_, ?_, ?_⟩
  · rw [IntKind.wrap_i64]; omega
  · rw [Int.tmod_eq_emod_of_nonneg h]; omega
  · omega
  · omega
  · rw [IntKind.wrap_i64]; omega
  · rw [beq_eq_false_iff_ne]; omega
  · omega
theorem ba_list (l m : List UInt8) : (⟨l.toArray⟩ : ByteArray) ++ ⟨m.toArray⟩ = ⟨(l ++ m).toArray⟩ := by
  apply ByteArray.ext; rw [ByteArray.data_append]; apply Array.toList_inj.1; simp
theorem ext_take (s : ByteArray) (k : Nat) : (s.extract 0 k).data.toList = s.data.toList.take k := by
  rw [ByteArray.data_extract, Array.toList_extract]
  show ((s.data.toList.drop 0).take (k - 0)) = _
  simp
theorem ext_drop (s : ByteArray) (k : Nat) : (s.extract k s.size).data.toList = s.data.toList.drop k := by
  rw [ByteArray.data_extract, Array.toList_extract, List.extract_eq_take_drop]
  exact List.take_of_length_le (by rw [List.length_drop, Array.length_toList]; exact Nat.le_refl _)
theorem fed_ok {l : List Ch.St} {x : List UInt8} {c : Ch.Co} {tot : List UInt8} (hN : Ch.Near l) (h : Ch.Fed l x c tot) : COk c := by
  obtain ⟨⟨sb, rfl, hsb, _⟩, _⟩ := h
  exact ⟨by show l.length ≤ 1000; have := hN.len; omega, by show sb.length ≤ 500000; omega, fun y hy => by have := hN.send y hy; omega, by show (-9223372036854775808 : Int) ≤ (((Ch.rr l x).j : Nat) : Int); omega⟩
theorem Ch.fed_two {l : List Ch.St} {x : List UInt8} {c1 c2 : Ch.Co} {t1 t2 : List UInt8} (h1 : Ch.Fed l x c1 t1) (h2 : Ch.Fed l x c2 t2) : t1 = t2 ∧ c1.over = c2.over ∧ c1.failed = c2.failed ∧ (c1.over = false → c1.failed = false → c1 = c2) ∧ c1.steps = l := by
  obtain ⟨⟨s1, rfl, _, m1⟩, rfl⟩ := h1
  obtain ⟨⟨s2, rfl, _, m2⟩, rfl⟩ := h2
  refine ⟨rfl, rfl, rfl, ?_, rfl⟩
  rcases hf : (Ch.rr l x).f with _ | (_ | _)
  · rw [hf] at m1 m2
    simp only at m1 m2
    intro _ _
    rw [m1, m2]
  · intro _ h; cases h
  · intro h _; cases h
theorem fed_out {l : List Ch.St} {x : List UInt8} {c : Ch.Co} {tot : List UInt8} (hN : Ch.Near l) (h : Ch.Fed l x c tot) : tot.length ≤ 360000 := by
  rw [h.out]
  have h1 := Ch.rr_len l x
  have h2 := h1.2.2 hN.send
  have h3 := hN.len
  have h4 := h1.2.1
  omega

set_option maxHeartbeats 8000000 in
set_option maxRecDepth 100000 in
theorem pieces8_walk (a : Option Addr) (c : Nat) (vs : List SV) (xs : List Ch.St) (s : ByteArray) (bN : Option Addr) (cN : Nat) (l : List Int) (w : World) (hr : Row0 stepE w a vs) (hx : ISts w vs xs) (hsm : ∀ x ∈ xs, x.send.size ≤ maxLen) (hrow : NRow9 w bN l) (hE : Env w) :
    Calls Tryd.prog 3 #[.slice a xs.length c, .string s, .slice bN l.length cN] w fun e w' => e = .returned (.bool true) ∧ Below w.heap.size w w' := by
  have HA : Hid (∀ W, Below w.heap.size w W → Calls Tryd.prog 5 #[] W fun e w' => e = .returned (.bool true) ∧ Hid (Below w.heap.size w w')) := fun W hW => (awake_any W (hE.below hW)).mono fun e w' ⟨h1, h2⟩ => ⟨h1, Rg.chain hW h2⟩
  have HF0 := far_any a c vs xs w hr hx hsm
  by_cases hf : Ch.far xs = true
  · rw [hf] at HF0
    have HF : Hid (Calls Tryd.prog 4 #[.slice a xs.length c] w fun e w' => e = .returned (.bool true) ∧ Hid (Below w.heap.size w w')) := HF0
    generalize xs.length = N at *
    clear HF0
    go_enter Tryd.func3, Tryd.ntmps3
    go_wp2_with (first
      | (go_at_call 4; refine HF.out.mono ?_; rintro e w1 ⟨rfl, b1⟩)
      | (go_at_call 5; refine (HA.out _ b1.out).mono ?_; rintro e w9 ⟨rfl, b9⟩))
    go_ret
    exact ⟨rfl, b9.out⟩
  replace hf : Ch.far xs = false := by simpa using hf
  rw [hf] at HF0
  have hNear := Rg.hid (Ch.near_of hf)
  clear hf
  have HB0 := fun W (hW : Below w.heap.size w W) => begin_in a c vs xs 3 W (hE.below hW).max (by have := hNear.out.len; omega) (fun x hx => by have := (hNear.out.wants x hx).1; have := (hNear.out.nudge x hx).1; omega) (fun x hx => by have := hNear.out.send x hx; omega) (hr.below hW) (hx.below hW)
  have hN60 := hNear.out.len
  obtain ⟨N, hN⟩ : ∃ N, N = xs.length := ⟨_, rfl⟩
  rw [← hN] at HF0 HB0 hN60 ⊢
  obtain ⟨M, hM⟩ : ∃ M, M = l.length := ⟨_, rfl⟩
  rw [← hM]
  have HF : Hid (Calls Tryd.prog 4 #[.slice a N c] w fun e w' => e = .returned (.bool false) ∧ Hid (Below w.heap.size w w')) := HF0
  clear HF0
  replace hN := Rg.hid hN
  replace hM := Rg.hid hM
  replace HB0 := Rg.hid HB0
  replace hr := Rg.hid hr
  replace hx := Rg.hid hx
  replace hE := Rg.hid hE
  replace hrow := Rg.hid hrow
  clear hsm
  by_cases h2000 : 2000 < s.size
  · have d1 : decide ((2000 : Int) < (s.size : Int)) = true := by simp only [decide_eq_true_eq]; omega
    go_enter Tryd.func3, Tryd.ntmps3
    go_wp2_with (first
      | (go_at_call 4; refine HF.out.mono ?_; rintro e w1 ⟨rfl, b1⟩)
      | (go_at_call 5; refine (HA.out _ b1.out).mono ?_; rintro e w9 ⟨rfl, b9⟩))
    go_ret
    exact ⟨rfl, b9.out⟩
  have d1 : decide ((2000 : Int) < (s.size : Int)) = false := by simp only [decide_eq_false_iff_not]; omega
  by_cases h100 : 100 < M
  · have d2 : decide ((100 : Int) < (M : Int)) = true := by simp only [decide_eq_true_eq]; omega
    go_enter Tryd.func3, Tryd.ntmps3
    go_wp2_with (first
      | (go_at_call 4; refine HF.out.mono ?_; rintro e w1 ⟨rfl, b1⟩)
      | (go_at_call 5; refine (HA.out _ b1.out).mono ?_; rintro e w9 ⟨rfl, b9⟩))
    go_ret
    exact ⟨rfl, b9.out⟩
  have d2 : decide ((100 : Int) < (M : Int)) = false := by simp only [decide_eq_false_iff_not]; omega
  go_enter Tryd.func3, Tryd.ntmps3
  go_upto_region 3 with (go_at_call 4; refine HF.out.mono ?_; rintro e w1 ⟨rfl, b1⟩)
  clear HF d1 d2
  go_wp2
  go_loopw [38] (fun vi wr => ∃ (i : Nat), i ≤ N ∧ vi = .int .i64 i ∧ Hid (Ch.Short (xs.take i)) ∧ Hid (Below w.heap.size w wr)) (fun vi _ => N - (intOf vi).toNat)
  case atStart => exact ⟨0, Nat.zero_le _, rfl, (fun x hx => by simp at hx), b1⟩
  case round =>
    clear b1
    obtain ⟨i, hin, rfl, hSh, hbw⟩ := hrel
    by_cases hlt : i < N
    · have hil : i < xs.length := by rw [← hN.out]; exact hlt
      have hiv : i < vs.length := by rw [hx.out.1]; exact hil
      obtain ⟨b1', o1, rfl⟩ := row_place (hr.out.row hiv) hiv
      obtain ⟨e0, e1, e2⟩ := irow_cells ((hr.out.row hiv).below hbw.out) hiv
      have hst := (hx.out.2 i hiv hil).below hbw.out
      have hz0 : (0 : Int) ≤ (i : Int) := by omega
      have hz1 : (i : Int) < (N : Int) := by omega
      have hSh2 : (∀ s ∈ xs[i].wants, s.size ≤ 300) → Hid (Ch.Short (xs.take (i + 1))) := fun h => by
        intro x hx
        rw [List.take_succ_eq_append_getElem hil] at hx
        rcases List.mem_append.1 hx with e | e
        · exact hSh.out x e
        · rw [List.mem_singleton.1 e]; exact h
      have hwx := (hNear.out.wants xs[i] (List.getElem_mem hil)).1
      have h1 := hst.n
      have hwr := hst.wants
      obtain ⟨sv, hsv⟩ : ∃ sv, vs[i] = sv := ⟨_, rfl⟩
      rw [hsv] at e0 e1 e2 h1 hwr
      obtain ⟨wa, wn, wcp, na, nn, ncp, ss⟩ := sv
      dsimp only at e0 e1 e2 h1 hwr
      generalize xs[i].wants = ws at *
      replace h1 := Rg.hid h1
      have hbX := Rg.hid (Rg.chain hbw.out (Rg.al1 wr (.cells #[.slice wa wn wcp, .slice na nn ncp, .string ss] 28)))
      have kX : Rg.Bk wr.heap.size [.slice wa wn wcp, .slice na nn ncp, .string ss] 28 (wr.alloc (.cells #[.slice wa wn wcp, .slice na nn ncp, .string ss] 28)) := Rg.Bk.new rfl
      have hwr2 := Rg.hid (hwr.below (Rg.al1 wr (.cells #[.slice wa wn wcp, .slice na nn ncp, .string ss] 28)))
      clear hst hsv hSh hbw hwr
      go_upto_region 6 with fail
      clear e0 e1 e2
      generalize World.alloc _ _ = w2 at *
      obtain ⟨X, hX⟩ : ∃ X, X = wr.heap.size := ⟨_, rfl⟩
      rw [← hX] at kX ⊢
      clear hX
      have x0 : w2.cell? ⟨X, 0, none⟩ = some (.slice wa wn wcp) := kX.cell 0
      clear kX
      go_wp2
      go_loop [45] (fun kv => ∃ k : Nat, k ≤ wn ∧ kv = .int .i64 k ∧ Hid (∀ u ∈ ws.take k, u.size ≤ 300)) (fun kv => wn - (intOf kv).toNat)
      case atStart => exact ⟨0, Nat.zero_le _, rfl, (by show ∀ u ∈ _, _; simp)⟩
      case round =>
        obtain ⟨k, hk, rfl, hok⟩ := hrel
        by_cases hkl : k < wn
        · have hkw : k < ws.length := by rw [← h1.out]; exact hkl
          have hrw := hwr2.out.row hkw
          obtain ⟨bw, ow, rfl⟩ := row_place hrw hkw
          have hcw := srow_cell hrw hkw
          have hy0 : (0 : Int) ≤ (k : Int) := by omega
          have hy1 : (k : Int) < (wn : Int) := by omega
          have hok2 : ws[k].size ≤ 300 → Hid (∀ u ∈ ws.take (k + 1), u.size ≤ 300) := fun h => by
            intro u hu
            rw [List.take_succ_eq_append_getElem hkw] at hu
            rcases List.mem_append.1 hu with e | e
            · exact hok.out u e
            · rw [List.mem_singleton.1 e]; exact h
          generalize ws[k] = uw at *
          clear hrw hok
          by_cases h300 : 300 < uw.size
          · have d3 : decide ((300 : Int) < (uw.size : Int)) = true := by simp only [decide_eq_true_eq]; omega
            clear hok2
            go_wp2_with (go_at_call 5; refine (HA.out _ hbX.out).mono ?_; rintro e w9 ⟨rfl, b9⟩)
            go_ret
            exact ⟨rfl, b9.out⟩
          · have d3 : decide ((300 : Int) < (uw.size : Int)) = false := by simp only [decide_eq_false_iff_not]; omega
            have hok3 := hok2 (by omega)
            clear hok2
            go_wp2
            go_round
            case rel => exact ⟨k + 1, by omega, by go_num, hok3⟩
            case measure => simp [intOf]; omega
        · have hall := hok.out
          rw [List.take_of_length_le (by rw [← h1.out]; omega)] at hall
          have hSh3 := hSh2 hall
          clear hSh2 hok hall
          go_wp2
          go_roundw
          case rel => exact ⟨i + 1, by omega, by go_num, hSh3, hbX⟩
          case measure => simp [intOf]; omega
    · obtain rfl : i = N := by omega
      have hShort := hSh.out
      rw [List.take_of_length_le (by rw [hN.out]; exact Nat.le_refl _)] at hShort
      replace hShort := Rg.hid hShort
      have hF0 := Ch.Fed.first xs
      have HB : Hid (∀ W, Below w.heap.size w W → Calls Tryd.prog 6 #[.slice a i c, .int .i64 3] W fun e w' => GEx W (Ch.begin_ xs 3) e w') := fun W hW => (HB0.out W hW).mono fun e w' q => q.ex
      unfold GEx at HB
      generalize Ch.begin_ xs 3 = r0 at *
      obtain ⟨c0, fo⟩ := r0
      dsimp only at hF0 HB
      have hfo := fed_out hNear.out hF0
      replace hF0 := Rg.hid hF0
      clear HB0 hSh hlt
      go_upto_region 14 with (go_at_call 6; refine (HB.out _ hbw.out).mono ?_; rintro e w2 ⟨sa, sn, sc, step, want, seen, wait, pat, over, fail, rfl, hA2, b2⟩)
      have kA : Rg.Bk w2.heap.size [.slice sa sn sc, .int .i64 step, .int .i64 want, .string seen, .int .i64 wait, .int .i64 pat, .bool over, .bool fail] 30 (w2.alloc (.cells #[.slice sa sn sc, .int .i64 step, .int .i64 want, .string seen, .int .i64 wait, .int .i64 pat, .bool over, .bool fail] 30)) := Rg.Bk.new rfl
      have hA3 := hA2.below (Rg.al1 w2 (.cells #[.slice sa sn sc, .int .i64 step, .int .i64 want, .string seen, .int .i64 wait, .int .i64 pat, .bool over, .bool fail] 30))
      have hb3 := Rg.hid (Rg.chain (Rg.chain hbw.out b2) (Rg.al1 w2 (.cells #[.slice sa sn sc, .int .i64 step, .int .i64 want, .string seen, .int .i64 wait, .int .i64 pat, .bool over, .bool fail] 30)))
      have hAw : w.heap.size ≤ w2.heap.size := (Rg.chain hbw.out b2).size
      clear hA2 b2 hbw HB
      generalize World.alloc _ _ = w3 at *
      obtain ⟨Ab, hAb⟩ : ∃ Ab, Ab = w2.heap.size := ⟨_, rfl⟩
      rw [← hAb] at kA hAw ⊢
      clear hAb
      have z0 : w3.cell? ⟨Ab, 0, none⟩ = some (.slice sa sn sc) := kA.cell 0
      have z1 : w3.cell? ⟨Ab, 1, none⟩ = some (.int .i64 step) := kA.cell 1
      have z2 : w3.cell? ⟨Ab, 2, none⟩ = some (.int .i64 want) := kA.cell 2
      have z3 : w3.cell? ⟨Ab, 3, none⟩ = some (.string seen) := kA.cell 3
      have z4 : w3.cell? ⟨Ab, 4, none⟩ = some (.int .i64 wait) := kA.cell 4
      have z5 : w3.cell? ⟨Ab, 5, none⟩ = some (.int .i64 pat) := kA.cell 5
      have z6 : w3.cell? ⟨Ab, 6, none⟩ = some (.bool over) := kA.cell 6
      have z7 : w3.cell? ⟨Ab, 7, none⟩ = some (.bool fail) := kA.cell 7
      have kB : Hid (Rg.Bk w3.heap.size [.slice sa sn sc, .int .i64 step, .int .i64 want, .string seen, .int .i64 wait, .int .i64 pat, .bool over, .bool fail] 30 (w3.alloc (.cells #[.slice sa sn sc, .int .i64 step, .int .i64 want, .string seen, .int .i64 wait, .int .i64 pat, .bool over, .bool fail] 30))) := Rg.Bk.new rfl
      have bB := Rg.al1 w3 (.cells #[.slice sa sn sc, .int .i64 step, .int .i64 want, .string seen, .int .i64 wait, .int .i64 pat, .bool over, .bool fail] 30)
      have kA4 := Rg.hid (kA.below bB kA.lt)
      have hA4 := Rg.hid (hA3.below bB)
      have hb4 := Rg.hid (Rg.chain hb3.out bB)
      have hBw : w.heap.size ≤ w3.heap.size := hb3.out.size
      have hAB : Ab < w3.heap.size := kA.lt
      clear kA hA3 bB hb3
      go_upto_region 15 with fail
      clear z0 z1 z2 z3 z4 z5 z6 z7
      generalize World.alloc _ _ = w4 at *
      obtain ⟨Bb, hBb⟩ : ∃ Bb, Bb = w3.heap.size := ⟨_, rfl⟩
      rw [← hBb] at kB hBw hAB ⊢
      clear hBb
      go_wp2
      go_loopw [14, 15, 64] (fun vo vr vj wr => ∃ (j : Nat) (x out : List UInt8) (rest : ByteArray) (ck : Ch.Co) (sab : Option Addr) (snb scb : Nat) (stepb wantb : Int) (seenb : ByteArray) (waitb patb : Int) (overb failb : Bool), j ≤ M ∧ vj = .int .i64 j ∧ vo = .string ⟨out.toArray⟩ ∧ vr = .string rest ∧ rest.size ≤ 2000 ∧ Hid (s.data.toList = x ++ rest.data.toList) ∧ Hid (Ch.Fed xs x ck (fo ++ out)) ∧ Hid (Rg.Bk Bb [.slice sab snb scb, .int .i64 stepb, .int .i64 wantb, .string seenb, .int .i64 waitb, .int .i64 patb, .bool overb, .bool failb] 30 wr) ∧ Hid (CAt wr (.agg #[.slice sab snb scb, .int .i64 stepb, .int .i64 wantb, .string seenb, .int .i64 waitb, .int .i64 patb, .bool overb, .bool failb]) ck) ∧ Hid (Rg.Bk Ab [.slice sa sn sc, .int .i64 step, .int .i64 want, .string seen, .int .i64 wait, .int .i64 pat, .bool over, .bool fail] 30 wr) ∧ Hid (CAt wr (.agg #[.slice sa sn sc, .int .i64 step, .int .i64 want, .string seen, .int .i64 wait, .int .i64 pat, .bool over, .bool fail]) c0) ∧ Hid (Below w.heap.size w wr)) (fun _ _ vj _ => M - (intOf vj).toNat)
      case atStart => exact ⟨0, [], [], s, c0, sa, sn, sc, step, want, seen, wait, pat, over, fail, Nat.zero_le _, rfl, rfl, rfl, by omega, rfl, by show Ch.Fed _ _ _ _; rw [List.append_nil]; exact hF0.out, kB, hA4, kA4, hA4, hb4⟩
      case round =>
        clear kB kA4 hA4 hb4
        obtain ⟨j, x, out, rest, ck, sab, snb, scb, stepb, wantb, seenb, waitb, patb, overb, failb, hjM, rfl, rfl, rfl, hrs, hsx, hFd, kB, hAk, kA, hA, hbw⟩ := hrel
        by_cases hlt : j < M
        · have hjl : j < l.length := by rw [← hM.out]; exact hlt
          obtain ⟨bn, on, rfl, hcn⟩ := hrow.out.at hbw.out hjl
          have hz0 : (0 : Int) ≤ (j : Int) := by omega
          have hz1 : (j : Int) < (M : Int) := by omega
          generalize l[j] = kk at *
          obtain ⟨F, U, Mo, u1, u2, u3, u4, u5, hF, u6, u7, u8⟩ := Ch.rmod kk rest.size hrs
          have hy : (rest.extract 0 F).data.toList.length ≤ 2000 := by rw [ext_take, List.length_take, Array.length_toList]; have : rest.data.size = rest.size := rfl; omega
          have hysz : (rest.extract 0 F).size ≤ 2000 := by rw [Array.length_toList] at hy; exact hy
          have hFd2 := hFd.out.more hShort.out (rest.extract 0 F).data.toList hy
          have hout := fed_out hNear.out hFd.out
          have hout2 := fed_out hNear.out hFd2
          have hsx2 : Hid (s.data.toList = (x ++ (rest.extract 0 F).data.toList) ++ (rest.extract F rest.size).data.toList) := by
            show _ = _
            rw [hsx.out, ext_take, ext_drop, List.append_assoc, List.take_append_drop]
          have hrs2 : (rest.extract F rest.size).size ≤ 2000 := by
            have : (rest.extract F rest.size).data.toList.length ≤ 2000 := by rw [ext_drop, List.length_drop, Array.length_toList]; have : rest.data.size = rest.size := rfl; omega
            rw [Array.length_toList] at this; exact this
          have HT0 := fun W (hW : Below wr.heap.size wr W) => feed_any (.agg #[.slice sab snb scb, .int .i64 stepb, .int .i64 wantb, .string seenb, .int .i64 waitb, .int .i64 patb, .bool overb, .bool failb]) ck (rest.extract 0 F) W ((hE.out.below (Rg.chain hbw.out hW)).max) (fed_ok hNear.out hFd.out) (by omega) (hAk.out.below hW)
          generalize Ch.feed ck (rest.extract 0 F).data.toList = r at *
          obtain ⟨c1, o1⟩ := r
          dsimp only at HT0 hFd2 hout2
          have HT : Hid (∀ W, Below wr.heap.size wr W → Calls Tryd.prog 7 #[.agg #[.slice sab snb scb, .int .i64 stepb, .int .i64 wantb, .string seenb, .int .i64 waitb, .int .i64 patb, .bool overb, .bool failb], .string (rest.extract 0 F)] W fun e w' => ∃ (san : Option Addr) (snn scn : Nat) (stepn wantn : Int) (seenn : ByteArray) (waitn patn : Int) (overn failn : Bool), e = .returned (.tuple #[.agg #[.slice san snn scn, .int .i64 stepn, .int .i64 wantn, .string seenn, .int .i64 waitn, .int .i64 patn, .bool overn, .bool failn], .string ⟨o1.toArray⟩]) ∧ CAt w' (.agg #[.slice san snn scn, .int .i64 stepn, .int .i64 wantn, .string seenn, .int .i64 waitn, .int .i64 patn, .bool overn, .bool failn]) c1 ∧ Below W.heap.size W w' ∧ Below wr.heap.size wr w' ∧ w'.cell? ⟨Bb, 0, none⟩ = some (.slice sab snb scb) ∧ w'.cell? ⟨Bb, 1, none⟩ = some (.int .i64 stepb) ∧ w'.cell? ⟨Bb, 2, none⟩ = some (.int .i64 wantb) ∧ w'.cell? ⟨Bb, 3, none⟩ = some (.string seenb) ∧ w'.cell? ⟨Bb, 4, none⟩ = some (.int .i64 waitb) ∧ w'.cell? ⟨Bb, 5, none⟩ = some (.int .i64 patb) ∧ w'.cell? ⟨Bb, 6, none⟩ = some (.bool overb) ∧ w'.cell? ⟨Bb, 7, none⟩ = some (.bool failb)) := fun W hW => (HT0 W hW).mono fun e w' q => by
            obtain ⟨san, snn, scn, stepn, wantn, seenn, waitn, patn, overn, failn, h1, h2, h3⟩ := q.ex
            have h4 := Rg.chain hW h3
            have k4 := kB.out.below h4 kB.out.lt
            exact ⟨san, snn, scn, stepn, wantn, seenn, waitn, patn, overn, failn, h1, h2, h3, h4, k4.cell 0, k4.cell 1, k4.cell 2, k4.cell 3, k4.cell 4, k4.cell 5, k4.cell 6, k4.cell 7⟩
          have q1 : (0 : Int) ≤ (F : Int) := by omega
          have q2 : (F : Int) ≤ (rest.size : Int) := by omega
          have hos : (⟨out.toArray⟩ : ByteArray).size + (⟨o1.toArray⟩ : ByteArray).size ≤ 720000 := by
            show out.toArray.size + o1.toArray.size ≤ _
            rw [List.size_toArray, List.size_toArray]
            rw [List.length_append] at hout hout2
            rw [List.length_append] at hout2
            omega
          have hcat : Hid ((⟨out.toArray⟩ : ByteArray) ++ ⟨o1.toArray⟩ = ⟨(out ++ o1).toArray⟩) := ba_list out o1
          replace hFd2 : Hid (Ch.Fed xs (x ++ (rest.extract 0 F).data.toList) c1 (fo ++ (out ++ o1))) := by show Ch.Fed _ _ _ _; rw [← List.append_assoc]; exact hFd2
          clear HT0 hout hout2 hy hF hsx hFd
          go_upto_region 20 with fail
          clear u1 u2 u3 u4 u5 u6 u7 u8 hcn
          go_cut [19, 20] (fun s19 s20 wx => ∃ (X : Nat) (san : Option Addr) (snn scn : Nat) (stepn wantn : Int) (seenn : ByteArray) (waitn patn : Int) (overn failn : Bool), s19 = .pointer (some ⟨X, 0, none⟩) ∧ s20 = .string ⟨o1.toArray⟩ ∧ wr.heap.size ≤ X ∧ Hid (Rg.Bk X [.slice san snn scn, .int .i64 stepn, .int .i64 wantn, .string seenn, .int .i64 waitn, .int .i64 patn, .bool overn, .bool failn] 30 wx) ∧ Hid (CAt wx (.agg #[.slice san snn scn, .int .i64 stepn, .int .i64 wantn, .string seenn, .int .i64 waitn, .int .i64 patn, .bool overn, .bool failn]) c1) ∧ Below wr.heap.size wr wx)
          case first =>
            have z0 : wr.cell? ⟨Bb, 0, none⟩ = some (.slice sab snb scb) := kB.out.cell 0
            have z1 : wr.cell? ⟨Bb, 1, none⟩ = some (.int .i64 stepb) := kB.out.cell 1
            have z2 : wr.cell? ⟨Bb, 2, none⟩ = some (.int .i64 wantb) := kB.out.cell 2
            have z3 : wr.cell? ⟨Bb, 3, none⟩ = some (.string seenb) := kB.out.cell 3
            have z4 : wr.cell? ⟨Bb, 4, none⟩ = some (.int .i64 waitb) := kB.out.cell 4
            have z5 : wr.cell? ⟨Bb, 5, none⟩ = some (.int .i64 patb) := kB.out.cell 5
            have z6 : wr.cell? ⟨Bb, 6, none⟩ = some (.bool overb) := kB.out.cell 6
            have z7 : wr.cell? ⟨Bb, 7, none⟩ = some (.bool failb) := kB.out.cell 7
            have hBl := kB.out.lt
            have hVn : wr.heap.size ≠ Bb := by omega
            clear hAk hA kA hFd2 hcat
            go_region_held3 (fun w' => w'.cell? ⟨Bb, 0, none⟩ = some (.slice sab snb scb) ∧ w'.cell? ⟨Bb, 1, none⟩ = some (.int .i64 stepb) ∧ w'.cell? ⟨Bb, 2, none⟩ = some (.int .i64 wantb) ∧ w'.cell? ⟨Bb, 3, none⟩ = some (.string seenb) ∧ w'.cell? ⟨Bb, 4, none⟩ = some (.int .i64 waitb) ∧ w'.cell? ⟨Bb, 5, none⟩ = some (.int .i64 patb) ∧ w'.cell? ⟨Bb, 6, none⟩ = some (.bool overb) ∧ w'.cell? ⟨Bb, 7, none⟩ = some (.bool failb)) (go_keep) (first
              | (go_at_call 7; refine (HT.out _ ?_).mono ?_; (first | exact (Rg.al1 _ _).drew | exact Rg.al1 _ _); rintro e wT ⟨san, snn, scn, stepn, wantn, seenn, waitn, patn, overn, failn, rfl, hAT, bT', bT, y0, y1, y2, y3, y4, y5, y6, y7⟩; have kX : Rg.Bk wr.heap.size [.slice none 0 0, .int .i64 0, .int .i64 0, .string ⟨#[]⟩, .int .i64 0, .int .i64 0, .bool false, .bool false] 30 wT := (by first | exact Rg.Bk.below ((Rg.Bk.new rfl).drew) bT' (by simp) | exact Rg.Bk.below (Rg.Bk.new rfl) bT' (by simp)); have f0 := kX.cell 0; have f1 := kX.cell 1; have f2 := kX.cell 2; have f3 := kX.cell 3; have f4 := kX.cell 4; have f5 := kX.cell 5; have f6 := kX.cell 6; have f7 := kX.cell 7; have ff := kX.thaw)
              | (go_at_call 7; refine (HT.out _ ?_).mono ?_; (first | exact Below.refl _ _ | exact (Below.refl _ _).drew); rintro e wT ⟨san, snn, scn, stepn, wantn, seenn, waitn, patn, overn, failn, rfl, hAT, bT', bT, y0, y1, y2, y3, y4, y5, y6, y7⟩; have hTV : wT.heap.size ≠ Bb := (by have := bT.size; omega)))
            all_goals go_wp2_with fail
            all_goals go_meet
            · exact ⟨wT.heap.size, san, snn, scn, stepn, wantn, seenn, waitn, patn, overn, failn, rfl, rfl, bT.size, Rg.Bk.new rfl, hAT.below (Rg.al1 _ _), Rg.chain bT (Rg.al1 _ _)⟩
            · obtain ⟨kE, oE⟩ := ret8 kX rfl (.slice san snn scn) (.int .i64 stepn) (.int .i64 wantn) (.string seenn) (.int .i64 waitn) (.int .i64 patn) (.bool overn) (.bool failn)
              have hAE := hAT.only kX oE
              have bE := bT.trans (oE.bel (Nat.le_refl _))
              exact ⟨wr.heap.size, san, snn, scn, stepn, wantn, seenn, waitn, patn, overn, failn, rfl, rfl, Nat.le_refl _, kE, hAE, bE⟩
          case rest =>
            obtain ⟨X, san, snn, scn, stepn, wantn, seenn, waitn, patn, overn, failn, rfl, rfl, hXw, kX, hAn, b6⟩ := hcut
            obtain ⟨w6, hw6⟩ : ∃ w6, w6 = wc := ⟨_, rfl⟩
            subst hw6
            have kB6 := kB.out.below b6 kB.out.lt
            have kA6 := kA.out.below b6 kA.out.lt
            have hA6 := hA.out.below b6
            have hb6 := Rg.chain hbw.out b6
            have hXB : X ≠ Bb := by have := kB.out.lt; omega
            obtain ⟨kB7, o7⟩ := ret8 kB6 rfl (.slice san snn scn) (.int .i64 stepn) (.int .i64 wantn) (.string seenn) (.int .i64 waitn) (.int .i64 patn) (.bool overn) (.bool failn)
            have kA7 := Rg.hid (kA6.same (o7.block Ab (by omega)))
            have hA7 := Rg.hid (hA6.only kB6 o7)
            have hAn7 := Rg.hid (hAn.out.only kB6 o7)
            have hb7 := Rg.hid (hb6.trans (o7.bel hBw))
            have r0 : w6.cell? ⟨Bb, 0, none⟩ = some (.slice sab snb scb) := kB6.cell 0
            have r1 : w6.cell? ⟨Bb, 1, none⟩ = some (.int .i64 stepb) := kB6.cell 1
            have r2 : w6.cell? ⟨Bb, 2, none⟩ = some (.int .i64 wantb) := kB6.cell 2
            have r3 : w6.cell? ⟨Bb, 3, none⟩ = some (.string seenb) := kB6.cell 3
            have r4 : w6.cell? ⟨Bb, 4, none⟩ = some (.int .i64 waitb) := kB6.cell 4
            have r5 : w6.cell? ⟨Bb, 5, none⟩ = some (.int .i64 patb) := kB6.cell 5
            have r6 : w6.cell? ⟨Bb, 6, none⟩ = some (.bool overb) := kB6.cell 6
            have r7 : w6.cell? ⟨Bb, 7, none⟩ = some (.bool failb) := kB6.cell 7
            have d0 : w6.cell? ⟨X, 0, none⟩ = some (.slice san snn scn) := kX.out.cell 0
            have d1 : w6.cell? ⟨X, 1, none⟩ = some (.int .i64 stepn) := kX.out.cell 1
            have d2 : w6.cell? ⟨X, 2, none⟩ = some (.int .i64 wantn) := kX.out.cell 2
            have d3 : w6.cell? ⟨X, 3, none⟩ = some (.string seenn) := kX.out.cell 3
            have d4 : w6.cell? ⟨X, 4, none⟩ = some (.int .i64 waitn) := kX.out.cell 4
            have d5 : w6.cell? ⟨X, 5, none⟩ = some (.int .i64 patn) := kX.out.cell 5
            have d6 : w6.cell? ⟨X, 6, none⟩ = some (.bool overn) := kX.out.cell 6
            have d7 : w6.cell? ⟨X, 7, none⟩ = some (.bool failn) := kX.out.cell 7
            have rf := kB6.thaw
            replace kB7 := Rg.hid kB7
            clear o7 kB6 kA6 hA6 hb6 hAn kX b6 HT kB kA hA hAk hbw
            go_upto_region 22 with fail
            generalize World.setCell _ _ _ = w7 at *
            clear r0 r1 r2 r3 r4 r5 r6 r7 d0 d1 d2 d3 d4 d5 d6 d7 rf
            go_wp2
            go_roundw
            case rel => exact ⟨j + 1, _, out ++ o1, _, c1, san, snn, scn, stepn, wantn, seenn, waitn, patn, overn, failn, by omega, by go_num, congrArg Value.string hcat.out, rfl, hrs2, hsx2, hFd2, kB7, hAn7, kA7, hA7, hb7⟩
            case measure => simp [intOf]; omega
        · go_upto_region 25 with fail
          clear hlt hjM hrow
          have hyr : rest.data.toList.length ≤ 2000 := by rw [Array.length_toList]; exact hrs
          have hys : s.data.toList.length ≤ 2000 := by rw [Array.length_toList]; show s.size ≤ 2000; omega
          have hFB := hFd.out.more hShort.out rest.data.toList hyr
          have hFA := hF0.out.more hShort.out s.data.toList hys
          rw [← hsx.out] at hFB
          rw [List.nil_append] at hFA
          have HT : Hid (∀ W, Below wr.heap.size wr W → Calls Tryd.prog 7 #[.agg #[.slice sab snb scb, .int .i64 stepb, .int .i64 wantb, .string seenb, .int .i64 waitb, .int .i64 patb, .bool overb, .bool failb], .string rest] W fun e w' => GEx W (Ch.feed ck rest.data.toList) e w') := fun W hW => (feed_any _ ck rest W ((hE.out.below (Rg.chain hbw.out hW)).max) (fed_ok hNear.out hFd.out) (by omega) (hAk.out.below hW)).mono fun e w' q => q.ex
          have HU : Hid (∀ W, Below w.heap.size w W → CAt W (.agg #[.slice sa sn sc, .int .i64 step, .int .i64 want, .string seen, .int .i64 wait, .int .i64 pat, .bool over, .bool fail]) c0 → Calls Tryd.prog 7 #[.agg #[.slice sa sn sc, .int .i64 step, .int .i64 want, .string seen, .int .i64 wait, .int .i64 pat, .bool over, .bool fail], .string s] W fun e w' => GEx W (Ch.feed c0 s.data.toList) e w') := fun W hW hC => (feed_any _ c0 s W ((hE.out.below hW).max) (fed_ok hNear.out hF0.out) (by omega) hC).mono fun e w' q => q.ex
          unfold GEx at HT HU
          generalize Ch.feed ck rest.data.toList = r1 at *
          generalize Ch.feed c0 s.data.toList = r2 at *
          obtain ⟨cB, t⟩ := r1
          obtain ⟨cA, u⟩ := r2
          dsimp only at HT HU hFB hFA
          obtain ⟨htot, hov, hfl, hgo, hst⟩ := Ch.fed_two hFA hFB
          have hlen := fed_out hNear.out hFB
          have hlen2 := fed_out hNear.out hFA
          rw [List.length_append, List.length_append] at hlen
          rw [List.length_append] at hlen2
          have e2 : (⟨fo.toArray⟩ : ByteArray) ++ ⟨out.toArray⟩ ++ ⟨t.toArray⟩ = ⟨fo.toArray⟩ ++ ⟨u.toArray⟩ := by rw [ba_list, ba_list, ba_list, htot]
          have e1 : (⟨out.toArray⟩ : ByteArray) ++ ⟨t.toArray⟩ = ⟨u.toArray⟩ := by
            rw [ba_list, List.append_cancel_left (show fo ++ u = fo ++ (out ++ t) by rw [← List.append_assoc]; exact htot)]
          have g1 : (⟨fo.toArray⟩ : ByteArray).size = fo.length := List.size_toArray
          have g2 : (⟨out.toArray⟩ : ByteArray).size = out.length := List.size_toArray
          have g3 : (⟨t.toArray⟩ : ByteArray).size = t.length := List.size_toArray
          have g4 : (⟨u.toArray⟩ : ByteArray).size = u.length := List.size_toArray
          have HSm : Hid (cA.over = false → cA.failed = false → ∀ W v1 v2, CAt W v1 cA → CAt W v2 cB → Calls Tryd.prog 8 #[v1, v2] W fun e w' => e = .returned (.bool true) ∧ Below W.heap.size W w') := fun q1 q2 W v1 v2 h1 h2 => same_any v1 v2 cA W h1 (by rw [hgo q1 q2]; exact h2) (by rw [hst]; exact Nat.le_trans hNear.out.len (by decide)) (fun x hx => by rw [hst] at hx; exact ⟨Nat.le_trans (hNear.out.wants x hx).1 (by decide), Nat.le_trans (hNear.out.nudge x hx).1 (by decide)⟩)
          replace e1 := Rg.hid e1
          replace e2 := Rg.hid e2
          clear hFB hFA hgo hst htot hyr hys hFd hF0 hsx hAk
          have z0 : wr.cell? ⟨Bb, 0, none⟩ = some (.slice sab snb scb) := kB.out.cell 0
          have z1 : wr.cell? ⟨Bb, 1, none⟩ = some (.int .i64 stepb) := kB.out.cell 1
          have z2 : wr.cell? ⟨Bb, 2, none⟩ = some (.int .i64 wantb) := kB.out.cell 2
          have z3 : wr.cell? ⟨Bb, 3, none⟩ = some (.string seenb) := kB.out.cell 3
          have z4 : wr.cell? ⟨Bb, 4, none⟩ = some (.int .i64 waitb) := kB.out.cell 4
          have z5 : wr.cell? ⟨Bb, 5, none⟩ = some (.int .i64 patb) := kB.out.cell 5
          have z6 : wr.cell? ⟨Bb, 6, none⟩ = some (.bool overb) := kB.out.cell 6
          have z7 : wr.cell? ⟨Bb, 7, none⟩ = some (.bool failb) := kB.out.cell 7
          go_upto_region 26 with (go_at_call 7; refine (HT.out _ (Below.refl _ _)).mono ?_; rintro e w7 ⟨sa2, sn2, sc2, step2, want2, seen2, wait2, pat2, over2, fail2, rfl, hA7, b7⟩; have kB7 := kB.out.below b7 kB.out.lt; have yf := kB7.thaw; have y0 := kB7.cell 0; have y1 := kB7.cell 1; have y2 := kB7.cell 2; have y3 := kB7.cell 3; have y4 := kB7.cell 4; have y5 := kB7.cell 5; have y6 := kB7.cell 6; have y7 := kB7.cell 7; simp only [List.getElem?_cons_zero, List.getElem?_cons_succ] at y0 y1 y2 y3 y4 y5 y6 y7)
          have kA7 := kA.out.below b7 kA.out.lt
          have hAA7 := hA.out.below b7
          obtain ⟨kB8, o8⟩ := ret8 kB7 rfl (.slice sa2 sn2 sc2) (.int .i64 step2) (.int .i64 want2) (.string seen2) (.int .i64 wait2) (.int .i64 pat2) (.bool over2) (.bool fail2)
          have hB8 := Rg.hid (hA7.only kB7 o8)
          have hAA8 := Rg.hid (hAA7.only kB7 o8)
          have kA8 := Rg.hid (kA7.same (o8.block Ab (by omega)))
          have hb8 := Rg.hid ((Rg.chain hbw.out b7).trans (o8.bel hBw))
          replace kB8 := Rg.hid kB8
          clear z0 z1 z2 z3 z4 z5 z6 z7 y0 y1 y2 y3 y4 y5 y6 y7 yf kB7 kB kA7 kA hAA7 hA b7 HT o8 hA7 hbw
          generalize World.setCell _ _ _ = w8 at *
          have HV := Rg.hid (HU.out w8 hb8.out hAA8.out)
          clear HU hAA8
          have z0 : w8.cell? ⟨Ab, 0, none⟩ = some (.slice sa sn sc) := kA8.out.cell 0
          have z1 : w8.cell? ⟨Ab, 1, none⟩ = some (.int .i64 step) := kA8.out.cell 1
          have z2 : w8.cell? ⟨Ab, 2, none⟩ = some (.int .i64 want) := kA8.out.cell 2
          have z3 : w8.cell? ⟨Ab, 3, none⟩ = some (.string seen) := kA8.out.cell 3
          have z4 : w8.cell? ⟨Ab, 4, none⟩ = some (.int .i64 wait) := kA8.out.cell 4
          have z5 : w8.cell? ⟨Ab, 5, none⟩ = some (.int .i64 pat) := kA8.out.cell 5
          have z6 : w8.cell? ⟨Ab, 6, none⟩ = some (.bool over) := kA8.out.cell 6
          have z7 : w8.cell? ⟨Ab, 7, none⟩ = some (.bool fail) := kA8.out.cell 7
          go_upto_region 27 with (go_at_call 7; refine HV.out.mono ?_; rintro e w9 ⟨sa3, sn3, sc3, step3, want3, seen3, wait3, pat3, over3, fail3, rfl, hA9, b9⟩; have kA9 := kA8.out.below b9 kA8.out.lt; have yf := kA9.thaw; have y0 := kA9.cell 0; have y1 := kA9.cell 1; have y2 := kA9.cell 2; have y3 := kA9.cell 3; have y4 := kA9.cell 4; have y5 := kA9.cell 5; have y6 := kA9.cell 6; have y7 := kA9.cell 7; simp only [List.getElem?_cons_zero, List.getElem?_cons_succ] at y0 y1 y2 y3 y4 y5 y6 y7)
          have kB9 := kB8.out.below b9 kB8.out.lt
          have hB9 := hB8.out.below b9
          obtain ⟨kA10, o10⟩ := ret8 kA9 rfl (.slice sa3 sn3 sc3) (.int .i64 step3) (.int .i64 want3) (.string seen3) (.int .i64 wait3) (.int .i64 pat3) (.bool over3) (.bool fail3)
          have hA10 := hA9.only kA9 o10
          have hB10 := hB9.only kA9 o10
          have kB10 := kB9.same (o10.block Bb (by omega))
          have hb10 := Rg.hid ((Rg.chain hb8.out b9).trans (o10.bel hAw))
          clear z0 z1 z2 z3 z4 z5 z6 z7 y0 y1 y2 y3 y4 y5 y6 y7 yf kA9 kA8 kB9 kB8 hB8 hB9 b9 HV o10 hA9 hb8
          generalize World.setCell _ _ _ = w10 at *
          obtain ⟨f1, f2⟩ := hA10.flags
          obtain ⟨f3, f4⟩ := hB10.flags
          rw [← hov, ← f1] at f3
          rw [← hfl, ← f2] at f4
          subst f3 f4
          have HS2 : over2 = false → fail2 = false → Hid (Calls Tryd.prog 8 #[.agg #[.slice sa3 sn3 sc3, .int .i64 step3, .int .i64 want3, .string seen3, .int .i64 wait3, .int .i64 pat3, .bool over2, .bool fail2], .agg #[.slice sa2 sn2 sc2, .int .i64 step2, .int .i64 want2, .string seen2, .int .i64 wait2, .int .i64 pat2, .bool over2, .bool fail2]] w10 fun e w' => e = .returned (.bool true) ∧ Below w10.heap.size w10 w') := fun q1 q2 => HSm.out (by rw [← f1]; exact q1) (by rw [← f2]; exact q2) w10 _ _ hA10 hB10
          clear hA10 hB10 HSm f1 f2 hov hfl
          have p0 : w10.cell? ⟨Ab, 0, none⟩ = some (.slice sa3 sn3 sc3) := kA10.cell 0
          have p1 : w10.cell? ⟨Ab, 1, none⟩ = some (.int .i64 step3) := kA10.cell 1
          have p2 : w10.cell? ⟨Ab, 2, none⟩ = some (.int .i64 want3) := kA10.cell 2
          have p3 : w10.cell? ⟨Ab, 3, none⟩ = some (.string seen3) := kA10.cell 3
          have p4 : w10.cell? ⟨Ab, 4, none⟩ = some (.int .i64 wait3) := kA10.cell 4
          have p5 : w10.cell? ⟨Ab, 5, none⟩ = some (.int .i64 pat3) := kA10.cell 5
          have p6 : w10.cell? ⟨Ab, 6, none⟩ = some (.bool over2) := kA10.cell 6
          have p7 : w10.cell? ⟨Ab, 7, none⟩ = some (.bool fail2) := kA10.cell 7
          have q0 : w10.cell? ⟨Bb, 0, none⟩ = some (.slice sa2 sn2 sc2) := kB10.cell 0
          have q1 : w10.cell? ⟨Bb, 1, none⟩ = some (.int .i64 step2) := kB10.cell 1
          have q2 : w10.cell? ⟨Bb, 2, none⟩ = some (.int .i64 want2) := kB10.cell 2
          have q3 : w10.cell? ⟨Bb, 3, none⟩ = some (.string seen2) := kB10.cell 3
          have q4 : w10.cell? ⟨Bb, 4, none⟩ = some (.int .i64 wait2) := kB10.cell 4
          have q5 : w10.cell? ⟨Bb, 5, none⟩ = some (.int .i64 pat2) := kB10.cell 5
          have q6 : w10.cell? ⟨Bb, 6, none⟩ = some (.bool over2) := kB10.cell 6
          have q7 : w10.cell? ⟨Bb, 7, none⟩ = some (.bool fail2) := kB10.cell 7
          clear kA10 kB10
          have s1 : (⟨fo.toArray⟩ : ByteArray).size + (⟨out.toArray⟩ : ByteArray).size ≤ 720000 := by rw [g1, g2]; omega
          have s2 : ((⟨fo.toArray⟩ : ByteArray) ++ ⟨out.toArray⟩).size + (⟨t.toArray⟩ : ByteArray).size ≤ 720000 := by rw [ByteArray.size_append, g1, g2, g3]; omega
          have s3 : (⟨fo.toArray⟩ : ByteArray).size + (⟨u.toArray⟩ : ByteArray).size ≤ 720000 := by rw [g1, g4]; omega
          have s4 : (⟨out.toArray⟩ : ByteArray).size + (⟨t.toArray⟩ : ByteArray).size ≤ 720000 := by rw [g2, g3]; omega
          clear g1 g2 g3 g4 hlen hlen2 hfo
          have E1 : (((⟨out.toArray⟩ : ByteArray) ++ ⟨t.toArray⟩).toList == (⟨u.toArray⟩ : ByteArray).toList) = true := by rw [e1.out]; simp
          have E2 : (((⟨fo.toArray⟩ : ByteArray) ++ ⟨out.toArray⟩ ++ ⟨t.toArray⟩).toList == ((⟨fo.toArray⟩ : ByteArray) ++ ⟨u.toArray⟩).toList) = true := by rw [e2.out]; simp
          have E3 : ((⟨out.toArray⟩ : ByteArray) ++ ⟨t.toArray⟩).toList = u := by rw [e1.out]; simp
          have E4 : (((⟨out.toArray⟩ : ByteArray) ++ ⟨t.toArray⟩).toList == u) = true := by rw [E3]; simp
          clear e1 e2
          cases over2 with
          | true =>
            clear HS2
            go_upto_region 28 with fail
            go_wp2_with (go_at_call 5; refine (HA.out _ hb10.out).mono ?_; rintro e w11 ⟨rfl, b11⟩)
            go_ret
            exact ⟨rfl, b11.out⟩
          | false =>
            cases fail2 with
            | true =>
              clear HS2
              go_upto_region 28 with fail
              go_wp2_with (go_at_call 5; refine (HA.out _ hb10.out).mono ?_; rintro e w11 ⟨rfl, b11⟩)
              go_ret
              exact ⟨rfl, b11.out⟩
            | false =>
              have HS3 := HS2 rfl rfl
              clear HS2
              go_upto_region 29 with fail
              go_wp2_with (first
                | (go_at_call 8; refine HS3.out.mono ?_; rintro e w11 ⟨rfl, b9⟩; have b10 := Rg.chain hb10.out b9)
                | (go_at_call 5; refine (HA.out _ b10).mono ?_; rintro e w12 ⟨rfl, b11⟩))
              go_ret
              exact ⟨rfl, b11.out⟩
end Go.Proofs.YtpggnhnpphbaeaaDoor
