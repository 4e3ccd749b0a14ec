/-
  Walks of layer 14: the document's Numbers; what both answer.
-/
import Derived.Test.YtnglfefgcdbgmaaWnG
namespace Go.Proofs.Ytnglfefgcdbgmaa
open Go.RowKit
/-- none, or a row of numbers of one's own -/
def NO (base : Nat) (W : World) (A : Option Addr) (cap : Nat) (S : List Int) : Prop := (A = none ∧ S = [] ∧ cap = 0) ∨ ∃ g rest, A = some ⟨g, 0, none⟩ ∧ intE.Own base W g cap S rest
theorem NO.below {base : Nat} {W W' : World} {A : Option Addr} {cap : Nat} {S : List Int} (h : NO base W A cap S) (hb : Below W.heap.size W W') : NO base W' A cap S := by
  rcases h with h | ⟨g, rest, h1, h2⟩
  · exact .inl h
  · exact .inr ⟨g, rest, h1, h2.below hb⟩
theorem NO.row {base : Nat} {W : World} {A : Option Addr} {cap : Nat} {S : List Int} (h : NO base W A cap S) : NRow W A S := by
  rcases h with ⟨rfl, rfl, _⟩ | ⟨g, rest, rfl, h2⟩
  · exact .inl rfl
  · exact NRow.of h2.toRow
theorem NO.append {base : Nat} {W : World} {A : Option Addr} {cap : Nat} {S : List Int} (h : NO base W A cap S) (x : Int) (ad : Nat) (hx : Rg.At W ad 0 (intE.enc x)) (hB : base ≤ W.heap.size) (hS : S.length ≤ 10000) :
    ∃ v' W', (Builtin.append_ #[39, 39] 39 #[.slice A S.length cap, .slice (some ⟨ad, 0, none⟩) 1 1]).run Try.prog W = .ok v' W' ∧ ∃ A' cap', v' = .slice A' (S.length + 1) cap' ∧ NO base W' A' cap' (S ++ [x]) ∧ Below base W W' := by
  obtain ⟨i0, hi, hz0, hz1, hz2⟩ := infoInt'
  rcases h with ⟨rfl, rfl, rfl⟩ | ⟨g, rest, rfl, h⟩
  · obtain ⟨g', cap', rest', W', h1, h2, h3, h4⟩ := intE.append0 (P := Try.prog) W base x 39 39 i0 _ 8 Try.underlying39 hi hz0 hz1 hz2 rfl ⟨ad, 0, none⟩ 1 hx.add hB (by omega)
    exact ⟨_, W', h1, _, cap', rfl, .inr ⟨g', rest', rfl, h2⟩, h3.mono hB⟩
  · obtain ⟨g', cap', rest', W', h1, h2, _, h4, h5, h6⟩ := h.append (P := Try.prog) x 39 39 i0 _ 8 Try.underlying39 hi hz0 hz1 hz2 rfl ⟨ad, 0, none⟩ 1 hx.add hB (by omega) (by unfold maxLen; omega)
    exact ⟨_, W', h1, _, cap', rfl, .inr ⟨g', rest', rfl, h2⟩, h4⟩
set_option maxHeartbeats 4000000 in
set_option maxRecDepth 100000 in
theorem rnums_right (m s b : Int) (a : Option Addr) (n c : Nat) (hn : n ≤ 1000) (L : List Int) (hL : Hid (L.length = n)) (w : World) (HR : RightsAt 31 m s b a n c true) (hm : ¬ m = 0)
    (HZ : Hid (∀ (i : Nat) (h : i < L.length), ∃ Z, wrap64 (b + (i : Int)) = Z ∧ Z.tmod m = L[i])) :
    Calls Try.prog 22 #[.agg #[.int .i64 m, .int .i64 s, .int .i64 b, .slice a n c]] w fun e w' => ∃ a c, e = .returned (.slice a n c) ∧ Hid (NRow w' a L) ∧ Below w.heap.size w w' := by
  have kB1 : Hid (Rg.Bk w.heap.size [.int .i64 m, .int .i64 s, .int .i64 b, .slice a n c] 24 (w.alloc (.cells #[.int .i64 m, .int .i64 s, .int .i64 b, .slice a n c] 24))) := Rg.Bk.new rfl
  have hb1 := Rg.hid (Rg.al1 w (.cells #[.int .i64 m, .int .i64 s, .int .i64 b, .slice a n c] 24))
  go_enter Try.func22, Try.ntmps22
  go_upto_region 1 with fail
  generalize World.alloc _ _ = w1 at *
  obtain ⟨B, hB⟩ : ∃ B, B = w.heap.size := ⟨_, rfl⟩
  rw [← hB] at kB1 ⊢
  have hBw : w.heap.size ≤ B := by omega
  clear hB
  have z0 : w1.cell? ⟨B, 0, none⟩ = some (.int .i64 m) := kB1.out.cell 0
  have z1 : w1.cell? ⟨B, 1, none⟩ = some (.int .i64 s) := kB1.out.cell 1
  have z2 : w1.cell? ⟨B, 2, none⟩ = some (.int .i64 b) := kB1.out.cell 2
  have z3 : w1.cell? ⟨B, 3, none⟩ = some (.slice a n c) := kB1.out.cell 3
  go_upto_region 3 with (go_at_call 31; refine (HR _).mono ?_; rintro e w2 ⟨rfl, b2⟩)
  have kB2 := kB1.out.below b2 kB1.out.lt
  have hb2 := Rg.chain hb1.out b2
  clear z0 z1 z2 z3 kB1 hb1 b2
  have z3 : w2.cell? ⟨B, 3, none⟩ = some (.slice a n c) := kB2.cell 3
  have kB3 := Rg.hid kB2
  have hb2' := Rg.hid hb2
  have hBlt : B < w2.heap.size := kB2.lt
  clear HR kB2 hb2
  go_wp2
  clear z3
  go_loopw [3, 11] (fun vl vi wr => ∃ (i : Nat) (A : Option Addr) (cap : Nat), i ≤ n ∧ vi = .int .i64 i ∧ vl = .slice A i cap ∧ Hid (NO w2.heap.size wr A cap (L.take i)) ∧ Hid (Below w2.heap.size w2 wr)) (fun _ vi _ => n - (intOf vi).toNat)
  case atStart => exact ⟨0, none, 0, Nat.zero_le _, rfl, rfl, .inl ⟨rfl, rfl, rfl⟩, Below.refl _ _⟩
  case round =>
    obtain ⟨i, A, cap, hin, rfl, rfl, hown, hbw⟩ := hrel
    by_cases hlt : i < n
    · have hil : i < L.length := by rw [hL.out]; exact hlt
      have kBr := kB3.out.below hbw.out hBlt
      have z0 : wr.cell? ⟨B, 0, none⟩ = some (.int .i64 m) := kBr.cell 0
      have z1 : wr.cell? ⟨B, 1, none⟩ = some (.int .i64 s) := kBr.cell 1
      have z2 : wr.cell? ⟨B, 2, none⟩ = some (.int .i64 b) := kBr.cell 2
      have z3 : wr.cell? ⟨B, 3, none⟩ = some (.slice a n c) := kBr.cell 3
      obtain ⟨Z, q0, q1⟩ := HZ.out i hil
      obtain ⟨N, hN⟩ : ∃ N, N = L[i] := ⟨_, rfl⟩
      rw [← hN] at q1
      have hx : Rg.At (wr.alloc (.cells #[.int .i64 N] 3)) wr.heap.size 0 (intE.enc N) := by
        have kb : Rg.Bk wr.heap.size [.int .i64 N] 3 (wr.alloc (.cells #[.int .i64 N] 3)) := Rg.Bk.new rfl
        intro t u ht
        rw [Nat.zero_add, kb.cell, ← ht]
        rfl
      have bx := Rg.al1 wr (.cells #[.int .i64 N] 3)
      have hti : (L.take i).length = i := by rw [List.length_take]; have := hL.out; clear q0 q1; omega
      obtain ⟨v', W', hap, A', cap', hv', hPO', hb'⟩ := (hown.out.below bx).append N wr.heap.size hx (Nat.le_trans hbw.out.size bx.size) (by rw [hti]; clear q0 q1; omega)
      rw [hti] at hap hv'
      subst hv'
      replace hap := Rg.hid hap
      have hPO2 : Hid (NO w2.heap.size W' A' cap' (L.take (i + 1))) := by
        show NO _ _ _ _ _
        rw [List.take_succ_eq_append_getElem hil, ← hN]; exact hPO'
      have hbw' := Rg.hid ((hbw.out.trans (bx.mono hbw.out.size)).trans hb')
      clear hN hil kBr hown hbw HZ hL hx bx hti hPO' hb'
      go_wp2_with (at_builtin; refine Rg.wpList_append_run rfl (.tmp 14) (.tmp 22) 39 rfl _ _ rfl rfl _ _ hap.out ?_)
      clear q0 q1
      go_roundw
      case rel => exact ⟨i + 1, A', cap', by omega, by go_num, rfl, hPO2, hbw'⟩
      case measure => simp [intOf]; omega
    · obtain rfl : i = n := by omega
      have hE := hown.out.row
      rw [List.take_of_length_le (by rw [hL.out]; exact Nat.le_refl _)] at hE
      replace hE := Rg.hid hE
      go_wp2
      go_ret
      exact ⟨A, cap, rfl, hE, Rg.chain hb2'.out hbw.out⟩
theorem Wn.nums_get (X : Wn.W) {i : Nat} (h : i < ((List.range X.l.length).map (Wn.num X)).length) : ((List.range X.l.length).map (Wn.num X))[i] = Wn.num X i := by simp
theorem numbers_any (X : Wn.W) (a : Option Addr) (c : Nat) (w : World) :
    Calls Try.prog 21 #[WV X a c] w fun e w' => NPost w (Wn.nums X) e w' := by
  have HR : RightsAt 27 X.md X.sz X.bs a X.l.length c (Wn.rt X) := fun W => isRight_any X a c W
  cases hr : Wn.rt X with
  | false =>
    rw [hr] at HR
    rw [show Wn.nums X = [] by unfold Wn.nums; rw [if_neg (by simp [hr])]]
    exact nums_wrong _ _ _ a _ c w HR
  | true =>
    rw [hr] at HR
    have hp := Wn.rt_parts hr
    rw [Wn.nums_ok hr]
    have hl : ((List.range X.l.length).map (Wn.num X)).length = X.l.length := by simp
    refine (nums_right X.md X.sz X.bs a X.l.length c (by omega) ((List.range X.l.length).map (Wn.num X)) hl w HR (fun i h W => ?_)).mono fun e w' ⟨a', c', h1, h2, h3⟩ => ⟨a', c', by rw [hl]; exact h1, h2, h3⟩
    rw [Wn.nums_get X h]
    exact numberAt_any X a c i hr (by rw [hl] at h; omega) W
theorem rnumbers_any (X : Wn.W) (a : Option Addr) (c : Nat) (w : World) :
    Calls Try.prog 22 #[WV X a c] w fun e w' => NPost w (Wn.nums X) e w' := by
  have HR : RightsAt 31 X.md X.sz X.bs a X.l.length c (Wn.rt X) := fun W => rright_any X a c W
  cases hr : Wn.rt X with
  | false =>
    rw [hr] at HR
    rw [show Wn.nums X = [] by unfold Wn.nums; rw [if_neg (by simp [hr])]]
    exact rnums_wrong _ _ _ a _ c w HR
  | true =>
    rw [hr] at HR
    have hp := Wn.rt_parts hr
    rw [Wn.nums_ok hr]
    have hl : ((List.range X.l.length).map (Wn.num X)).length = X.l.length := by simp
    refine (rnums_right X.md X.sz X.bs a X.l.length c (by omega) ((List.range X.l.length).map (Wn.num X)) hl w HR (by omega) (fun i h => ?_)).mono fun e w' ⟨a', c', h1, h2, h3⟩ => ⟨a', c', by rw [hl]; exact h1, h2, h3⟩
    rw [Wn.nums_get X h]
    rw [hl] at h
    have r0 : 0 ≤ X.bs + (i : Int) := by omega
    have r1 : X.bs + (i : Int) ≤ 1000 := by omega
    exact ⟨_, (Wn.wrp (Int.le_trans (by decide) r0) (Int.le_trans r1 (by decide))).2, Int.tmod_eq_emod_of_nonneg r0⟩
end Go.Proofs.Ytnglfefgcdbgmaa
