/-
  Layer 8: Print.
-/
import Derived.Test.YteepfifglafjmaaDoorPr6
import Derived.Test.YteepfifglafjmaaDoorStIn
import Derived.Test.YteepfifglafjmaaDoorCh25
import Derived.Test.YteepfifglafjmaaDoorMathE8
namespace Go.Proofs.YteepfifglafjmaaDoor
open Go.RowKit

theorem ne_factsK {n : Nat} (h : n ≠ 0) : ((n : Int) != 0) = true ∧ ((n : Int) == 0) = false ∧ (n != 0) = true ∧ (n == 0) = false := by
  refine ⟨?_, ?_, ?_, ?_⟩
  · rw [bne_iff_ne]; omega
  · rw [beq_eq_false_iff_ne]; omega
  · rw [bne_iff_ne]; omega
  · rw [beq_eq_false_iff_ne]; omega
namespace Ch
theorem chkAll_stop : ∀ (a : List St) (x : St) (r : List St), chkAll a = 0 → chkSt x ≠ 0 → chkAll (a ++ x :: r) = chkSt x
  | [], x, r, _, h => by simp only [List.nil_append, chkAll]; rw [if_pos h]
  | y :: a, x, r, h0, h => by
    simp only [chkAll] at h0
    split at h0
    · rename_i h1; exact absurd h0 h1
    · rename_i h1
      simp only [List.cons_append, chkAll]
      rw [if_neg h1]
      exact chkAll_stop a x r h0 h
theorem chkAll_snoc : ∀ (a : List St) (x : St), chkAll a = 0 → chkSt x = 0 → chkAll (a ++ [x]) = 0
  | [], x, _, h => by simp only [List.nil_append, chkAll]; rw [if_neg (by rw [h]; simp)]
  | y :: a, x, h0, h => by
    simp only [chkAll] at h0
    split at h0
    · rename_i h1; exact absurd h0 h1
    · rename_i h1
      simp only [List.cons_append, chkAll]
      rw [if_neg h1]
      exact chkAll_snoc a x h0 h
theorem chkAll_zero : ∀ (a : List St), chkAll a = 0 → ∀ x ∈ a, chkSt x = 0
  | [], _, x, hx => by cases hx
  | y :: a, h0, x, hx => by
    simp only [chkAll] at h0
    split at h0
    · rename_i h1; exact absurd h0 h1
    · rename_i h1
      rcases List.mem_cons.1 hx with rfl | hx
      · exact Classical.not_not.1 h1
      · exact chkAll_zero a h0 x hx
theorem chkSt_ok {x : St} (h : chkSt x = 0) : x.wants.length ≤ 300 ∧ x.nudge.length + 1 = x.wants.length := by
  unfold chkSt at h
  split at h
  · cases h
  · rename_i h1
    omega
theorem putAll_snoc (a : List St) (x : St) : putAll (a ++ [x]) = putAll a ++ putSt x := by simp [putAll]
theorem putAll_len (l : List St) (hN : Near l) (hc : ∀ x ∈ l, chkSt x = 0) : ∀ i, i ≤ l.length → (putAll (l.take i)).length ≤ i * 7520000
  | 0, _ => by simp [putAll]
  | i + 1, h => by
    have ih := putAll_len l hN hc i (by omega)
    have hx := List.getElem_mem (l := l) (n := i) (by omega)
    have h1 := putSt_len l[i] (chkSt_ok (hc _ hx)).1 (hN.wants _ hx).2 (hN.nudge _ hx).2 (hN.send _ hx)
    rw [List.take_succ_eq_append_getElem (by omega), putAll_snoc, List.length_append]
    omega
end Ch
theorem BOwn.form {base : Nat} {W : World} {v : Value} {l : List UInt8} (h : BOwn base W v l) : ∃ a c, v = .slice a l.length c := by
  rcases h.2 with ⟨rfl, h2⟩ | ⟨g, cap, cur, e, _⟩
  · have : l = [] := List.eq_nil_of_length_eq_zero h2
    subst this
    exact ⟨none, 0, rfl⟩
  · exact ⟨_, cap, e⟩
theorem row_k2 {w W : World} {a : Option Addr} {l : List ByteArray} (h : Row0 strE w a l) (hb : Below w.heap.size w W) : SRowK w.heap.size W a l := by
  rcases h with h | h | ⟨b, o, h1, h2, h3⟩
  · exact .inl h
  · exact .inl h.2
  · exact .inr ⟨b, o, h1, Nat.lt_of_lt_of_le h2 hb.size, h3.below hb h2, .inl h2⟩
/-- behind Print -/
def SePost (w : World) (r : List UInt8 × Nat) (e : Ending) (w' : World) : Prop := e = .returned (.tuple #[.string ⟨r.1.toArray⟩, .int .i64 (r.2 : Nat)]) ∧ Below w.heap.size w w'

set_option maxHeartbeats 8000000 in
set_option maxRecDepth 100000 in
theorem print_any (a : Option Addr) (c : Nat) (vs : List SV) (xs : List Ch.St) (w : World) (hN : Ch.Near xs) (hr : Row0 stepE w a vs) (hx : LSts w vs xs) :
    Calls Tryd.prog 8 #[.slice a xs.length c] w fun e w' => SePost w (Ch.print xs) e w' := by
  obtain ⟨N, hNn⟩ : ∃ N, N = xs.length := ⟨_, rfl⟩
  rw [← hNn]
  have hP : Ch.print xs = if 20 < N then ([], 5) else if Ch.chkAll xs ≠ 0 then ([], Ch.chkAll xs) else if 300 < (Ch.putAll xs).length then ([], 5) else (Ch.putAll xs, 0) := by rw [hNn]; rfl
  replace hNn := Rg.hid hNn
  replace hr := Rg.hid hr
  replace hx := Rg.hid hx
  replace hN := Rg.hid hN
  by_cases h20 : 20 < N
  · rw [if_pos h20] at hP
    have d1 : decide ((20 : Int) < (N : Int)) = true := by simp; omega
    replace hP := Rg.hid hP
    go_enter Tryd.func8, Tryd.ntmps8
    go_wp2
    go_ret2
    exact ⟨by rw [hP.out]; rfl, Below.refl _ _⟩
  rw [if_neg h20] at hP
  have d1 : decide ((20 : Int) < (N : Int)) = false := by simp; omega
  replace hP := Rg.hid hP
  have hN20 : N ≤ 20 := by omega
  -- one step's cells, wherever the walk is
  have HR : Hid (∀ (i : Nat) (h : i < xs.length), ∃ b o, a = some ⟨b, o, none⟩ ∧ ∃ wa wn wc0 na nn nc, (∀ W, Below w.heap.size w W → W.cell? ⟨b, o + i * 3, none⟩ = some (.slice wa wn wc0) ∧ W.cell? ⟨b, o + i * 3 + 1, none⟩ = some (.slice na nn nc) ∧ W.cell? ⟨b, o + i * 3 + 2, none⟩ = some (.string xs[i].send)) ∧ Hid (wn = xs[i].wants.length ∧ nn = xs[i].nudge.length ∧ Row0 strE w wa xs[i].wants ∧ Row0 strE w na xs[i].nudge)) := fun i h => by
    have hiv : i < vs.length := by rw [hx.out.1]; exact h
    have hst := hx.out.2 i hiv h
    have hrow := hr.out.row hiv
    obtain ⟨b, o, rfl⟩ := row_place hrow hiv
    refine ⟨b, o, rfl, vs[i].a, vs[i].n, vs[i].c, vs[i].b, vs[i].m, vs[i].d, fun W hW => ?_, hst.n, hst.m, hst.wants, hst.nudge⟩
    obtain ⟨e0, e1, e2⟩ := irow_cells (hrow.below hW) hiv
    exact ⟨e0, e1, by rw [e2, hst.s]⟩
  clear hr hx h20
  go_enter Tryd.func8, Tryd.ntmps8
  go_upto_region 3 with fail
  clear d1
  go_wp2
  go_loopw [15] (fun vi wr => ∃ i : Nat, i ≤ N ∧ vi = .int .i64 i ∧ Hid (Ch.chkAll (xs.take i) = 0) ∧ Hid (Below w.heap.size w wr)) (fun vi _ => N - (intOf vi).toNat)
  case atStart => exact ⟨0, Nat.zero_le _, rfl, rfl, Below.refl _ _⟩
  case round =>
    obtain ⟨i, hin, rfl, hchk, hbw⟩ := hrel
    by_cases hlt : i < N
    · have hil : i < xs.length := by rw [← hNn.out]; exact hlt
      obtain ⟨b, o, rfl, wa, wn, wc0, na, nn, nc, hcs, hrows⟩ := HR.out i hil
      obtain ⟨e0, e1, e2⟩ := hcs wr hbw.out
      have hxm := List.getElem_mem hil
      have hz0 : (0 : Int) ≤ (i : Int) := by omega
      have hz1 : (i : Int) < (N : Int) := by omega
      have bA := Rg.al1 wr (.cells #[.slice wa wn wc0, .slice na nn nc, .string xs[i].send] 43)
      have hbA := Rg.chain hbw.out bA
      have HC0 := pcheck_any wa wn wc0 na nn nc xs[i].send xs[i].wants xs[i].nudge (wr.alloc (.cells #[.slice wa wn wc0, .slice na nn nc, .string xs[i].send] 43)) hrows.out.1 hrows.out.2.1 (hrows.out.2.2.1.below hbA) (hrows.out.2.2.2.below hbA) (by have := (hN.out.wants _ hxm).1; omega) (by have := (hN.out.nudge _ hxm).1; omega)
      have hstop : Hid (Ch.chkSt xs[i] ≠ 0 → Ch.chkAll xs = Ch.chkSt xs[i]) := fun h => by
        have e : xs = xs.take i ++ xs[i] :: xs.drop (i + 1) := by rw [← List.drop_eq_getElem_cons hil, List.take_append_drop]
        conv => lhs; rw [e]
        exact Ch.chkAll_stop _ _ _ hchk.out h
      have hsn : Hid (Ch.chkSt xs[i] = 0 → Ch.chkAll (xs.take (i + 1)) = 0) := fun h => by
        rw [List.take_succ_eq_append_getElem hil]
        exact Ch.chkAll_snoc _ _ hchk.out h
      have HC : Hid (Calls Tryd.prog 20 #[.agg #[.slice wa wn wc0, .slice na nn nc, .string xs[i].send]] (wr.alloc (.cells #[.slice wa wn wc0, .slice na nn nc, .string xs[i].send] 43)) fun e w' => e = .returned (.int .i64 (Ch.chkSt xs[i] : Nat)) ∧ Hid (Below w.heap.size w w')) := HC0.mono fun e w' ⟨h1, h2⟩ => ⟨h1, Rg.chain hbA h2⟩
      generalize Ch.chkSt xs[i] = q at *
      generalize xs[i].send = sd at *
      clear HC0 hcs hrows bA hbA hxm hil hchk
      by_cases hq : q = 0
      · have hok := Rg.hid (hsn.out hq)
        subst hq
        clear hstop hsn
        go_wp2_with (go_at_call 20; refine HC.out.mono ?_; rintro e w2 ⟨rfl, b2⟩)
        go_roundw
        case rel => exact ⟨i + 1, by omega, by go_num, hok, b2⟩
        case measure => simp [intOf]; omega
      · obtain ⟨n1, n2, n3, n4⟩ := ne_factsK hq
        have hno := hstop.out hq
        have hP2 := hP.out
        rw [if_pos (by rw [hno]; exact hq), hno] at hP2
        replace hP2 := Rg.hid hP2
        clear hstop hsn hno hP hq
        go_wp2_with (go_at_call 20; refine HC.out.mono ?_; rintro e w2 ⟨rfl, b2⟩)
        go_ret2
        exact ⟨by rw [hP2.out]; rfl, b2.out⟩
    · have hall : Hid (Ch.chkAll xs = 0) := by have := hchk.out; rw [List.take_of_length_le (by rw [← hNn.out]; omega)] at this; exact this
      have hP2 := hP.out
      rw [if_neg (by rw [hall.out]; simp)] at hP2
      replace hP2 := Rg.hid hP2
      have hO0 : Hid (BOwn w.heap.size wr (.slice none 0 0) (Ch.putAll (xs.take 0))) := BOwn.nil
      have hzero := Rg.hid (Ch.chkAll_zero xs hall.out)
      clear hchk hP hall
      go_wp2
      go_loopw [7, 27] (fun va vi wr2 => ∃ (j : Nat) (v : Value), j ≤ N ∧ vi = .int .i64 j ∧ v = va ∧ Hid (BOwn w.heap.size wr2 v (Ch.putAll (xs.take j))) ∧ Hid (Below w.heap.size w wr2)) (fun _ vi _ => N - (intOf vi).toNat)
      case atStart => exact ⟨0, _, Nat.zero_le _, rfl, rfl, hO0, hbw⟩
      case round =>
        clear hO0 hbw
        obtain ⟨j, v, hjn, rfl, rfl, hO, hbq⟩ := hrel
        have hzz := hzero.out
        have hpl := Ch.putAll_len xs hN.out hzz j (by rw [← hNn.out]; exact hjn)
        by_cases hlt2 : j < N
        · have hjl : j < xs.length := by rw [← hNn.out]; exact hlt2
          obtain ⟨b, o, rfl, wa, wn, wc0, na, nn, nc, hcs, hrows⟩ := HR.out j hjl
          obtain ⟨e0, e1, e2⟩ := hcs wr hbq.out
          have hxm := List.getElem_mem hjl
          have hz0 : (0 : Int) ≤ (j : Int) := by omega
          have hz1 : (j : Int) < (N : Int) := by omega
          have bA := Rg.al1 wr (.cells #[.slice wa wn wc0, .slice na nn nc, .string xs[j].send] 43)
          have hbA := Rg.chain hbq.out bA
          have hck := Ch.chkSt_ok (hzz _ hxm)
          have HC0 := pstep_any w.heap.size v (Ch.putAll (xs.take j)) wa wn wc0 na nn nc xs[j].send xs[j].wants xs[j].nudge (wr.alloc (.cells #[.slice wa wn wc0, .slice na nn nc, .string xs[j].send] 43)) (hO.out.below bA) hbA.size (by omega) hrows.out.1 hrows.out.2.1 (row_k2 hrows.out.2.2.1 hbA) (row_k2 hrows.out.2.2.2 hbA) hck.1 hck.2 (hN.out.wants _ hxm).2 (hN.out.nudge _ hxm).2 (hN.out.send _ hxm)
          have hsn : Ch.putAll (xs.take (j + 1)) = Ch.putAll (xs.take j) ++ Ch.putSt ⟨xs[j].wants, xs[j].nudge, xs[j].send⟩ := by rw [List.take_succ_eq_append_getElem hjl, Ch.putAll_snoc]
          rw [← hsn] at HC0
          have HC : Hid (Calls Tryd.prog 21 #[v, .agg #[.slice wa wn wc0, .slice na nn nc, .string xs[j].send]] (wr.alloc (.cells #[.slice wa wn wc0, .slice na nn nc, .string xs[j].send] 43)) fun e w' => ∃ v2, e = .returned v2 ∧ Hid (BOwn w.heap.size w' v2 (Ch.putAll (xs.take (j + 1)))) ∧ Hid (Below w.heap.size w w')) := HC0.mono fun e w' ⟨v2, q1, q2, q3, _⟩ => ⟨v2, q1, q2, hbA.trans q3⟩
          generalize xs[j].send = sd at *
          clear HC0 hcs hrows bA hbA hxm hck hsn hzz hpl hO hbq hjl
          go_wp2_with (go_at_call 21; refine HC.out.mono ?_; rintro e w2 ⟨v2, rfl, hO2, b2⟩)
          go_roundw
          case rel => exact ⟨j + 1, v2, by omega, by go_num, rfl, hO2, b2⟩
          case measure => simp [intOf]; omega
        · have hjN : j = N := by omega
          have hO2 := hO.out
          rw [List.take_of_length_le (by rw [← hNn.out]; omega)] at hO2 hpl
          obtain ⟨va, vc, rfl⟩ := hO2.form
          have hcv := hO2.conv
          obtain ⟨L, hL⟩ : ∃ L, L = (Ch.putAll xs).length := ⟨_, rfl⟩
          rw [← hL] at hcv hpl ⊢
          have hP3 := hP2.out
          rw [← hL] at hP3
          replace hL := Rg.hid hL
          clear hO hO2 hzz hP2
          by_cases h3 : 300 < L
          · rw [if_pos h3] at hP3
            have d3 : decide ((300 : Int) < (L : Int)) = true := by simp; omega
            replace hP3 := Rg.hid hP3
            clear hcv
            go_wp2
            go_ret2
            exact ⟨by rw [hP3.out]; rfl, hbq.out⟩
          · rw [if_neg h3] at hP3
            have d3 : decide ((300 : Int) < (L : Int)) = false := by simp; omega
            replace hP3 := Rg.hid hP3
            obtain ⟨X, hX⟩ : ∃ X, (⟨(Ch.putAll xs).toArray⟩ : ByteArray) = X := ⟨_, rfl⟩
            rw [hX] at hcv
            replace hX := Rg.hid hX
            go_wp2
            go_ret2
            exact ⟨by rw [hP3.out, ← hX.out]; rfl, hbq.out⟩
end Go.Proofs.YteepfifglafjmaaDoor
