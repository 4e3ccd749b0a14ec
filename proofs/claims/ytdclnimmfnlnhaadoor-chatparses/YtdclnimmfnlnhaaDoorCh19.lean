/-
  Layer 8: the document's parts and words.
-/
import Derived.Test.YtdclnimmfnlnhaaDoorCh18
import Derived.Test.YtdclnimmfnlnhaaDoorMathV8
import Derived.Test.YtdclnimmfnlnhaaDoorCh3
namespace Go.Proofs.YtdclnimmfnlnhaaDoor
open Go.RowKit

/-- append of one text -/
theorem app_str {base cap : Nat} {W : World} {a : Option Addr} {l : List ByteArray} (h : Rg.Sow strE base W a cap l) (hB : base ≤ W.heap.size) (x : ByteArray) (ad : Nat) (hk : Rg.Bk ad [.string x] 9 W) (hlen : l.length ≤ 1000000000) :
    ∃ a' cap' W', (Builtin.append_ #[32, 32] 32 #[.slice a l.length cap, .slice (some ⟨ad, 0, none⟩) 1 1]).run Tryd.prog W = .ok (.slice a' (l.length + 1) cap') W' ∧ Rg.Sow strE base W' a' cap' (l ++ [x]) ∧ Below base W W' := by
  obtain ⟨i0, hi, hz0, hz1, hz2⟩ := infoStr'
  obtain ⟨a', cap', W', h1, h2, h3, _⟩ := h.append (P := Tryd.prog) hB x 32 32 i0 _ 16 Tryd.underlying32 hi hz0 hz1 hz2 rfl ad (fun t u ht => by rw [Nat.zero_add, hk.cell]; exact ht) (by omega) (by unfold maxLen; omega)
  exact ⟨a', cap', W', h1, h2, h3⟩
/-- behind parts and words -/
def LPost (w : World) (l : List ByteArray) (e : Ending) (w' : World) : Prop := Below w.heap.size w w' ∧ ∃ a c, e = .returned (.slice a l.length c) ∧ Rg.Sow strE w.heap.size w' a c l

set_option maxHeartbeats 1000000 in
set_option maxRecDepth 100000 in
theorem parts_any (p : ByteArray) (w : World) (hs : p.size ≤ 1000000) : Calls Tryd.prog 47 #[.string p] w fun e w' => LPost w (Ch.dash p) e w' := by
  obtain ⟨D, hD⟩ : ∃ D, Ch.pleft p 0 0 = D := ⟨_, rfl⟩
  rw [← Ch.pleft_begin, hD]
  replace hD := Rg.hid hD
  go_enter Tryd.func47, Tryd.ntmps47
  go_wp2
  go_loopw [3, 4, 5] (fun vl vf vi wr => ∃ (i f : Nat) (acc : List ByteArray) (ya : Option Addr) (yc M : Nat), i ≤ p.size + 1 ∧ f ≤ i ∧ vi = .int .i64 i ∧ vf = .int .i64 f ∧ vl = .slice ya M yc ∧ Hid (M = acc.length) ∧ Hid (Rg.Sow strE w.heap.size wr ya yc acc) ∧ Hid (acc ++ Ch.pleft p f i = D) ∧ M ≤ i ∧ Below w.heap.size w wr) (fun _ _ vi _ => p.size + 1 - (intOf vi).toNat)
  case atStart => exact ⟨0, 0, [], none, 0, 0, by omega, by omega, rfl, rfl, rfl, rfl, Rg.Sow.nil, hD, by omega, Below.refl _ _⟩
  case round =>
    obtain ⟨i, f, acc, ya, yc, M, hin, hfi, rfl, rfl, rfl, hM, hS, hG, hMi, hbw⟩ := hrel
    by_cases hle : i ≤ p.size
    · have e0 : decide ((i : Int) ≤ (p.size : Int)) = true := by simp only [decide_eq_true_eq]; omega
      by_cases hlt : i < p.size
      · have g0 : ((i : Int) == (p.size : Int)) = false := by rw [beq_eq_false_iff_ne]; omega
        obtain ⟨c, hc⟩ : ∃ c, p[i] = c := ⟨_, rfl⟩
        have hz0 : (0 : Int) ≤ (i : Int) := by omega
        have hz1 : (i : Int) < (p.size : Int) := by omega
        by_cases h45 : c = 45
        · subst h45
          obtain ⟨X, hX⟩ : ∃ X, p.extract f i = X := ⟨_, rfl⟩
          obtain ⟨a', c', W', hap, hS', hb'⟩ := app_str (hS.out.below (Rg.al1 wr (.cells #[.string X] 9))) (Nat.le_trans hbw.size (Rg.al1 _ _).size) X wr.heap.size (Rg.Bk.new rfl) (by rw [← hM.out]; omega)
          rw [← hM.out] at hap
          replace hap := Rg.hid hap
          have hM' : Hid (M + 1 = (acc ++ [X]).length) := by show _ = _; rw [List.length_append, List.length_singleton, hM.out]
          have hbw' := Rg.hid ((hbw.trans ((Rg.al1 _ _).mono hbw.size)).trans hb')
          have hG' := hG.out
          rw [Ch.pleft_stroke p f i hlt hfi hc, hX] at hG'
          have hG2 : Hid ((acc ++ [X]) ++ Ch.pleft p (i + 1) (i + 1) = D) := by show _ = _; rw [← hG']; simp
          replace hS' := Rg.hid hS'
          have hf0 : (0 : Int) ≤ (f : Int) := by omega
          have hf1 : (f : Int) ≤ (i : Int) := by omega
          have hf2 : (i : Int) ≤ (p.size : Int) := by omega
          clear hM hS hb' hbw hG hG' hD
          go_wp2_with (at_builtin; refine Rg.wpList_append_run rfl (.tmp 22) (.tmp 27) 32 rfl _ _ rfl rfl _ _ hap.out ?_)
          go_roundw
          case rel => exact ⟨i + 1, i + 1, acc ++ [X], a', c', M + 1, by omega, by omega, by go_num, by go_num, rfl, hM', hS', hG2, by omega, hbw'.out⟩
          case measure => simp [intOf] <;> omega
        · have g1 : ((c.toNat : Int) == 45) = false := by rw [beq_eq_false_iff_ne]; intro e; exact h45 (Ch.u8_eq (n := 45) (by decide) (by omega))
          have hG2 : Hid (acc ++ Ch.pleft p f (i + 1) = D) := by show _ = _; rw [← Ch.pleft_more p f i hlt hfi (by rw [hc]; exact h45)]; exact hG.out
          clear hG h45 hD
          go_wp2
          go_roundw
          case rel => exact ⟨i + 1, f, acc, ya, yc, M, by omega, by omega, by go_num, rfl, rfl, hM, hS, hG2, by omega, hbw⟩
          case measure => simp [intOf] <;> omega
      · obtain rfl : i = p.size := by omega
        have g0 : ((p.size : Int) == (p.size : Int)) = true := by simp
        obtain ⟨X, hX⟩ : ∃ X, p.extract f p.size = X := ⟨_, rfl⟩
        obtain ⟨a', c', W', hap, hS', hb'⟩ := app_str (hS.out.below (Rg.al1 wr (.cells #[.string X] 9))) (Nat.le_trans hbw.size (Rg.al1 _ _).size) X wr.heap.size (Rg.Bk.new rfl) (by rw [← hM.out]; omega)
        rw [← hM.out] at hap
        replace hap := Rg.hid hap
        have hM' : Hid (M + 1 = (acc ++ [X]).length) := by show _ = _; rw [List.length_append, List.length_singleton, hM.out]
        have hbw' := Rg.hid ((hbw.trans ((Rg.al1 _ _).mono hbw.size)).trans hb')
        have hG' := hG.out
        rw [Ch.pleft_end p f hfi, hX] at hG'
        have hG2 : Hid ((acc ++ [X]) ++ Ch.pleft p (p.size + 1) (p.size + 1) = D) := by show _ = _; rw [← hG']; simp
        replace hS' := Rg.hid hS'
        have hf0 : (0 : Int) ≤ (f : Int) := by omega
        have hf1 : (f : Int) ≤ (p.size : Int) := by omega
        have hf2 : (p.size : Int) ≤ (p.size : Int) := by omega
        clear hM hS hb' hbw hG hG' hD
        go_wp2_with (at_builtin; refine Rg.wpList_append_run rfl (.tmp 22) (.tmp 27) 32 rfl _ _ rfl rfl _ _ hap.out ?_)
        go_roundw
        case rel => exact ⟨p.size + 1, p.size + 1, acc ++ [X], a', c', M + 1, by omega, by omega, by go_num, by go_num, rfl, hM', hS', hG2, by omega, hbw'.out⟩
        case measure => simp [intOf] <;> omega
    · have e0 : decide ((i : Int) ≤ (p.size : Int)) = false := by simp only [decide_eq_false_iff_not]; omega
      have hfin : Hid (LPost w D (.returned (.slice ya M yc)) wr) := by
        refine ⟨hbw, ya, yc, ?_⟩
        have hG' := hG.out
        rw [Ch.pleft_over p f i (by omega), List.append_nil] at hG'
        subst hG'
        rw [← hM.out]
        exact ⟨rfl, hS.out⟩
      clear hG hS hM hD
      go_wp2
      go_ret
      exact hfin.out

set_option maxHeartbeats 1000000 in
set_option maxRecDepth 100000 in
theorem words_any (p : ByteArray) (w : World) (hs : p.size ≤ 1000000) (hp : ∀ b ∈ p.data.toList, 32 ≤ b.toNat) : Calls Tryd.prog 29 #[.string p] w fun e w' => LPost w (Ch.words p) e w' := by
  obtain ⟨D, hD⟩ : ∃ D, Ch.wleft p (-1) 0 = D := ⟨_, rfl⟩
  rw [← Ch.wleft_begin, hD]
  replace hD := Rg.hid hD
  replace hp := Rg.hid hp
  go_enter Tryd.func29, Tryd.ntmps29
  go_wp2
  go_loopw [3, 4, 5] (fun vl vf vi wr => ∃ (i : Nat) (F : Int) (acc : List ByteArray) (ya : Option Addr) (yc M : Nat), i ≤ p.size + 1 ∧ F < i ∧ -1 ≤ F ∧ vi = .int .i64 i ∧ vf = .int .i64 F ∧ vl = .slice ya M yc ∧ Hid (M = acc.length) ∧ Hid (Rg.Sow strE w.heap.size wr ya yc acc) ∧ Hid (acc ++ Ch.wleft p F i = D) ∧ M ≤ i ∧ Below w.heap.size w wr) (fun _ _ vi _ => p.size + 1 - (intOf vi).toNat)
  case atStart => exact ⟨0, -1, [], none, 0, 0, by omega, by omega, by omega, rfl, rfl, rfl, rfl, Rg.Sow.nil, hD, by omega, Below.refl _ _⟩
  case round =>
    obtain ⟨i, F, acc, ya, yc, M, hin, hfi, hF, rfl, rfl, rfl, hM, hS, hG, hMi, hbw⟩ := hrel
    by_cases hle : i ≤ p.size
    · have e0 : decide ((i : Int) ≤ (p.size : Int)) = true := by simp only [decide_eq_true_eq]; omega
      by_cases hlt : i < p.size
      · have g0 : ((i : Int) == (p.size : Int)) = false := by rw [beq_eq_false_iff_ne]; omega
        obtain ⟨c, hc⟩ : ∃ c, p[i] = c := ⟨_, rfl⟩
        have hcw : 32 ≤ c.toNat := hp.out c (by rw [← hc]; exact Array.getElem_mem_toList _)
        have hz0 : (0 : Int) ≤ (i : Int) := by omega
        have hz1 : (i : Int) < (p.size : Int) := by omega
        by_cases h32 : c = 32
        · subst h32
          by_cases hneg : F < 0
          · obtain rfl : F = -1 := by omega
            have hG2 : Hid (acc ++ Ch.wleft p (-1) (i + 1) = D) := by show _ = _; rw [← Ch.wleft_sp_none p i hlt hc]; exact hG.out
            clear hG hD hcw
            go_wp2
            go_roundw
            case rel => exact ⟨i + 1, -1, acc, ya, yc, M, by omega, by omega, by omega, by go_num, rfl, rfl, hM, hS, hG2, by omega, hbw⟩
            case measure => simp [intOf] <;> omega
          · obtain ⟨f, rfl⟩ : ∃ f : Nat, F = f := ⟨F.toNat, by omega⟩
            have g2 : decide ((0 : Int) ≤ (f : Int)) = true := by simp only [decide_eq_true_eq]; omega
            have g3 : decide ((f : Int) < 0) = false := by simp only [decide_eq_false_iff_not]; omega
            have hfn : f < i := by omega
            obtain ⟨X, hX⟩ : ∃ X, p.extract f i = X := ⟨_, rfl⟩
            obtain ⟨a', c', W', hap, hS', hb'⟩ := app_str (hS.out.below (Rg.al1 wr (.cells #[.string X] 9))) (Nat.le_trans hbw.size (Rg.al1 _ _).size) X wr.heap.size (Rg.Bk.new rfl) (by rw [← hM.out]; omega)
            rw [← hM.out] at hap
            replace hap := Rg.hid hap
            have hM' : Hid (M + 1 = (acc ++ [X]).length) := by show _ = _; rw [List.length_append, List.length_singleton, hM.out]
            have hbw' := Rg.hid ((hbw.trans ((Rg.al1 _ _).mono hbw.size)).trans hb')
            have hG' := hG.out
            rw [Ch.wleft_sp_some p f i hlt hfn hc, hX] at hG'
            have hG2 : Hid ((acc ++ [X]) ++ Ch.wleft p (-1) (i + 1) = D) := by show _ = _; rw [← hG']; simp
            replace hS' := Rg.hid hS'
            have hf0 : (0 : Int) ≤ (f : Int) := by omega
            have hf1 : (f : Int) ≤ (i : Int) := by omega
            have hf2 : (i : Int) ≤ (p.size : Int) := by omega
            clear hcw hM hS hb' hbw hG hG' hD
            go_wp2_with (at_builtin; refine Rg.wpList_append_run rfl (.tmp 24) (.tmp 29) 32 rfl _ _ rfl rfl _ _ hap.out ?_)
            go_roundw
            case rel => exact ⟨i + 1, -1, acc ++ [X], a', c', M + 1, by omega, by omega, by omega, by go_num, rfl, rfl, hM', hS', hG2, by omega, hbw'.out⟩
            case measure => simp [intOf] <;> omega
        · have g1 : ((c.toNat : Int) == 32) = false := by rw [beq_eq_false_iff_ne]; intro e; exact h32 (Ch.u8_eq (n := 32) (by decide) (by omega))
          by_cases hneg : F < 0
          · obtain rfl : F = -1 := by omega
            have hG2 : Hid (acc ++ Ch.wleft p (i : Int) (i + 1) = D) := by show _ = _; rw [← Ch.wleft_in_none p i hlt (by rw [hc]; exact hcw) (by rw [hc]; exact h32)]; exact hG.out
            clear hG hD hcw h32
            go_wp2
            go_roundw
            case rel => exact ⟨i + 1, (i : Int), acc, ya, yc, M, by omega, by omega, by omega, by go_num, rfl, rfl, hM, hS, hG2, by omega, hbw⟩
            case measure => simp [intOf] <;> omega
          · obtain ⟨f, rfl⟩ : ∃ f : Nat, F = f := ⟨F.toNat, by omega⟩
            have g2 : decide ((0 : Int) ≤ (f : Int)) = true := by simp only [decide_eq_true_eq]; omega
            have g3 : decide ((f : Int) < 0) = false := by simp only [decide_eq_false_iff_not]; omega
            have hfn : f < i := by omega
            have hG2 : Hid (acc ++ Ch.wleft p (f : Int) (i + 1) = D) := by show _ = _; rw [← Ch.wleft_in_some p f i hlt hfn (by rw [hc]; exact hcw) (by rw [hc]; exact h32)]; exact hG.out
            clear hG hD hcw h32
            go_wp2
            go_roundw
            case rel => exact ⟨i + 1, (f : Int), acc, ya, yc, M, by omega, by omega, by omega, by go_num, rfl, rfl, hM, hS, hG2, by omega, hbw⟩
            case measure => simp [intOf] <;> omega
      · obtain rfl : i = p.size := by omega
        have g0 : ((p.size : Int) == (p.size : Int)) = true := by simp
        by_cases hneg : F < 0
        · obtain rfl : F = -1 := by omega
          have hG2 : Hid (acc ++ Ch.wleft p (-1) (p.size + 1) = D) := by show _ = _; rw [← Ch.wleft_end_none p]; exact hG.out
          clear hG hD
          go_wp2
          go_roundw
          case rel => exact ⟨p.size + 1, -1, acc, ya, yc, M, by omega, by omega, by omega, by go_num, rfl, rfl, hM, hS, hG2, by omega, hbw⟩
          case measure => simp [intOf] <;> omega
        · obtain ⟨f, rfl⟩ : ∃ f : Nat, F = f := ⟨F.toNat, by omega⟩
          have g2 : decide ((0 : Int) ≤ (f : Int)) = true := by simp only [decide_eq_true_eq]; omega
          have g3 : decide ((f : Int) < 0) = false := by simp only [decide_eq_false_iff_not]; omega
          have hfn : f < p.size := by omega
          obtain ⟨X, hX⟩ : ∃ X, p.extract f p.size = X := ⟨_, rfl⟩
          obtain ⟨a', c', W', hap, hS', hb'⟩ := app_str (hS.out.below (Rg.al1 wr (.cells #[.string X] 9))) (Nat.le_trans hbw.size (Rg.al1 _ _).size) X wr.heap.size (Rg.Bk.new rfl) (by rw [← hM.out]; omega)
          rw [← hM.out] at hap
          replace hap := Rg.hid hap
          have hM' : Hid (M + 1 = (acc ++ [X]).length) := by show _ = _; rw [List.length_append, List.length_singleton, hM.out]
          have hbw' := Rg.hid ((hbw.trans ((Rg.al1 _ _).mono hbw.size)).trans hb')
          have hG' := hG.out
          rw [Ch.wleft_end_some p f hfn, hX] at hG'
          have hG2 : Hid ((acc ++ [X]) ++ Ch.wleft p (-1) (p.size + 1) = D) := by show _ = _; rw [← hG']; simp
          replace hS' := Rg.hid hS'
          have hf0 : (0 : Int) ≤ (f : Int) := by omega
          have hf1 : (f : Int) ≤ (p.size : Int) := by omega
          have hf2 : (p.size : Int) ≤ (p.size : Int) := by omega
          clear hM hS hb' hbw hG hG' hD
          go_wp2_with (at_builtin; refine Rg.wpList_append_run rfl (.tmp 24) (.tmp 29) 32 rfl _ _ rfl rfl _ _ hap.out ?_)
          go_roundw
          case rel => exact ⟨p.size + 1, -1, acc ++ [X], a', c', M + 1, by omega, by omega, by omega, by go_num, rfl, rfl, hM', hS', hG2, by omega, hbw'.out⟩
          case measure => simp [intOf] <;> omega
    · have e0 : decide ((i : Int) ≤ (p.size : Int)) = false := by simp only [decide_eq_false_iff_not]; omega
      have hfin : Hid (LPost w D (.returned (.slice ya M yc)) wr) := by
        refine ⟨hbw, ya, yc, ?_⟩
        have hG' := hG.out
        rw [Ch.wleft_over p F i (by omega), List.append_nil] at hG'
        subst hG'
        rw [← hM.out]
        exact ⟨rfl, hS.out⟩
      clear hG hS hM hD
      go_wp2
      go_ret
      exact hfin.out
end Go.Proofs.YtdclnimmfnlnhaaDoor
