/-
  Layer 8: the document's read.
-/
import Derived.Test.YtdclnimmfnlnhaaDoorCh17
namespace Go.Proofs.YtdclnimmfnlnhaaDoor
open Go.RowKit

/-- behind the document's read -/
def RdPost (w : World) (r : Option (List UInt8 × Bool)) (e : Ending) (w' : World) : Prop := Below w.heap.size w w' ∧ match r with
  | some q => e = .returned (.tuple #[.string ⟨q.1.toArray⟩, .bool q.2, .int .i64 0])
  | none => e = .returned (.tuple #[.string ⟨#[]⟩, .bool false, .int .i64 3])
theorem drop_at {p : ByteArray} {i : Nat} (h : i < p.size) : p.data.toList.drop i = p[i] :: p.data.toList.drop (i + 1) := by
  have hl : i < p.data.toList.length := h
  rw [List.drop_eq_getElem_cons hl]
  rfl
theorem wtup {a b : Value} {k : Int} {w : World} {e : Ending} {r : Option (List UInt8 × Bool)} {w' : World} (h : RdPost w r (.returned (.tuple #[a, b, .int .i64 k])) w') (he : e = .returned (.tuple #[a, b, .int .i64 k])) : RdPost w r e w' := by rw [he]; exact h

set_option maxHeartbeats 1000000 in
set_option maxRecDepth 100000 in
theorem read_q_true (p : ByteArray) (w : World) (h : p.data.toList = [34, 34]) :
    Calls Tryd.prog 48 #[.string p, .bool true] w fun e w' => e = .returned (.tuple #[.string ⟨#[]⟩, .bool false, .int .i64 0]) ∧ w' = w := by
  have d0 : (p.toList == [34, 34]) = true := by rw [tl_eq, h]; rfl
  go_enter Tryd.func48, Tryd.ntmps48
  go_wp2
  exact bodyPost_ret (v := .tuple #[.string ⟨#[]⟩, .bool false, .int .i64 0]) (by simp [results, Tryd.results48, go_sem]) rfl ⟨rfl, rfl⟩

set_option maxHeartbeats 1000000 in
set_option maxRecDepth 100000 in
theorem read_go_true (p : ByteArray) (w : World) (h : p.data.toList ≠ [34, 34]) (hs : p.size ≤ 1000000) (hw : Ch.inWord p.data.toList) :
    Calls Tryd.prog 48 #[.string p, .bool true] w fun e w' => RdPost w (Ch.rgo true (p.data.toList.length + 1) p.data.toList []) e w' := by
  have d0 : (p.toList == [34, 34]) = false := by rw [tl_eq, beq_eq_false_iff_ne]; exact h
  obtain ⟨R, hR⟩ : ∃ R, Ch.rgo true (p.data.toList.length + 1) p.data.toList [] = R := ⟨_, rfl⟩
  rw [hR]
  have hpl : p.data.toList.length = p.size := rfl
  rw [hpl] at hR
  clear hpl
  replace hR := Rg.hid hR
  replace hw := Rg.hid hw
  clear h
  go_enter Tryd.func48, Tryd.ntmps48
  go_wp2
  go_loopw [7, 8] (fun vt vi wr => ∃ (i : Nat) (acc : List UInt8) (ya : Option Addr) (yc M n : Nat), vi = .int .i64 i ∧ vt = .slice ya M yc ∧ Hid (M = acc.length) ∧ Hid (Rg.Sow byteE w.heap.size wr ya yc acc) ∧ Hid (Ch.rgo true n (p.data.toList.drop i) acc = R) ∧ p.size < n + i ∧ i ≤ p.size ∧ M ≤ i ∧ Below w.heap.size w wr) (fun _ vi _ => p.size - (intOf vi).toNat)
  case atStart => exact ⟨0, [], none, 0, 0, p.size + 1, rfl, rfl, rfl, Rg.Sow.nil, hR, by omega, by omega, by omega, Below.refl _ _⟩
  case round =>
    obtain ⟨i, acc, ya, yc, M, n, rfl, rfl, hM, hS, hG, hn, hle, hle2, hbw⟩ := hrel
    clear hR
    obtain ⟨n, rfl⟩ : ∃ m, n = m + 1 := ⟨n - 1, by omega⟩
    have hG2 := hG.out
    clear hG
    by_cases hlt : i < p.size
    · rw [drop_at hlt] at hG2
      obtain ⟨c, hc⟩ : ∃ c, p[i] = c := ⟨_, rfl⟩
      rw [hc] at hG2
      have hcw : 33 ≤ c.toNat ∧ c.toNat ≤ 126 := hw.out c (by rw [← hc]; exact Array.getElem_mem_toList _)
      have hz0 : (0 : Int) ≤ (i : Int) := by omega
      have hz1 : (i : Int) < (p.size : Int) := by omega
      have HP : Hid (∀ W, Calls Tryd.prog 53 #[.int .u8 (c.toNat : Int)] W fun e w' => e = .returned (.bool (Ch.plain c)) ∧ W = w') := fun W => (rplain_any c W).mono fun e w' h => ⟨h.1, h.2.symm⟩
      by_cases hpl : Ch.plain c = true
      · rw [Ch.rgo_plain _ _ _ _ hpl] at hG2
        rw [hpl] at HP
        clear hpl hcw
        obtain ⟨a', c', W', hap, hS', hb'⟩ := app_byte (hS.out.below (Rg.al1 wr (.cells #[.int .u8 (c.toNat : Int)] 5))) (Nat.le_trans hbw.size (Rg.al1 _ _).size) c wr.heap.size (Rg.Bk.new rfl) (by rw [← hM.out]; omega)
        rw [← hM.out] at hap
        replace hap := Rg.hid hap
        have hM' : Hid (M + 1 = (acc ++ [c]).length) := by show _ = _; rw [List.length_append, List.length_singleton, hM.out]
        have hbw' := Rg.hid ((hbw.trans ((Rg.al1 _ _).mono hbw.size)).trans hb')
        replace hG2 := Rg.hid hG2
        replace hS' := Rg.hid hS'
        clear hM hS hb' hbw
        go_wp2_with (first
          | (go_at_call 53; refine (HP.out _).mono ?_; rintro e w9 ⟨rfl, rfl⟩)
          | (at_builtin; refine Rg.wpList_append_run rfl (.tmp 23) (.tmp 27) 60 rfl _ _ rfl rfl _ _ hap.out ?_))
        go_roundw
        case rel => exact ⟨i + 1, acc ++ [c], a', c', M + 1, n, by go_num, rfl, hM', hS', hG2, by omega, by omega, by omega, hbw'.out⟩
        case measure => simp [intOf]; omega
      replace hpl : Ch.plain c = false := by simpa using hpl
      rw [hpl] at HP
      by_cases h9 : c = 92
      · clear hcw
        subst h9
        by_cases hi1 : i + 1 = p.size
        · rw [show p.data.toList.drop (i + 1) = [] from List.drop_eq_nil_of_le (by show p.size ≤ _; omega), Ch.rgo_last] at hG2
          have g1 : ((i : Int) + 1 == (p.size : Int)) = true := by rw [beq_iff_eq]; omega
          have hfin : Hid (RdPost w R (.returned (.tuple #[.string ⟨#[]⟩, .bool false, .int .i64 3])) wr) := by
            refine ⟨hbw, ?_⟩
            subst hG2
            rfl
          clear hM hS hG2 hpl
          go_wp2_with (go_at_call 53; refine (HP.out _).mono ?_; rintro e w9 ⟨rfl, rfl⟩)
          exact bodyPost_ret (v := .tuple #[.string ⟨#[]⟩, .bool false, .int .i64 3]) (by simp [results, Tryd.results48, go_sem]) rfl hfin.out
        have hlt2 : i + 1 < p.size := by omega
        have g1 : ((i : Int) + 1 == (p.size : Int)) = false := by rw [beq_eq_false_iff_ne]; omega
        rw [drop_at hlt2] at hG2
        obtain ⟨d, hd⟩ : ∃ d, p[i + 1] = d := ⟨_, rfl⟩
        rw [hd] at hG2
        have hz2 : (0 : Int) ≤ (i : Int) + 1 := by omega
        have hz3 : (i : Int) + 1 < (p.size : Int) := by omega
        clear hpl
        by_cases h99 : d = 99
        · subst h99
          by_cases hi2 : i + 2 = p.size
          · obtain ⟨hi2, -⟩ : i + 2 = p.size ∧ True := ⟨hi2, trivial⟩
            have g1' : ((i : Int) + 1 + 1 == (p.size : Int)) = true := by rw [beq_iff_eq]; omega
            rw [show p.data.toList.drop (i + 1 + 1) = [] from List.drop_eq_nil_of_le (by show p.size ≤ _; omega), Ch.rgo_bare] at hG2
            have hcv := conv_sow hS.out
            rw [← hM.out] at hcv
            have hfin : Hid (RdPost w R (.returned (.tuple #[.string ⟨acc.toArray⟩, .bool true, .int .i64 0])) wr) := by
              refine ⟨hbw, ?_⟩
              subst hG2
              rfl
            generalize (⟨acc.toArray⟩ : ByteArray) = T at *
            clear hM hS hG2 hi2
            go_wp2_with (go_at_call 53; refine (HP.out _).mono ?_; rintro e w9 ⟨rfl, rfl⟩)
            exact bodyPost_ret (v := .tuple #[.string T, .bool true, .int .i64 0]) (by simp [results, Tryd.results48, go_sem]) rfl hfin.out
          have g1' : ((i : Int) + 1 + 1 == (p.size : Int)) = false := by rw [beq_eq_false_iff_ne]; omega
          rw [Ch.rgo_esc _ _ _ _ _ (fun e => hi2 (by have := congrArg List.length e.2.2; simp at this; have hps : p.data.size = p.size := rfl; omega)), if_pos (by decide)] at hG2
          have HE : Hid (∀ W, Calls Tryd.prog 63 #[.int .u8 99] W fun e w' => e = .returned (.tuple #[.int .u8 0, .bool false]) ∧ W = w') := fun W => by
            refine (rescape_any 99 W).mono ?_
            rintro e w' ⟨h1, h2⟩
            rw [if_pos (by decide)] at h1
            exact ⟨h1, h2.symm⟩
          have hfin : Hid (RdPost w R (.returned (.tuple #[.string ⟨#[]⟩, .bool false, .int .i64 3])) wr) := by
            refine ⟨hbw, ?_⟩
            subst hG2
            rfl
          clear hM hS hG2
          go_wp2_with (first | (go_at_call 53; refine (HP.out _).mono ?_; rintro e w9 ⟨rfl, rfl⟩) | (go_at_call 63; refine (HE.out _).mono ?_; rintro e w9 ⟨rfl, rfl⟩))
          exact bodyPost_ret (v := .tuple #[.string ⟨#[]⟩, .bool false, .int .i64 3]) (by simp [results, Tryd.results48, go_sem]) rfl hfin.out
        rw [Ch.rgo_esc _ _ _ _ _ (fun e => h99 e.2.1)] at hG2
        have g2 : ((d.toNat : Int) == 99) = false := by rw [beq_eq_false_iff_ne]; intro e; exact h99 (Ch.u8_eq (n := 99) (by decide) (by omega))
        have h0 := rescape_any d
        clear h99
        by_cases hix : Lib.indexByte Ch.lets d < 0
        · rw [if_pos hix] at hG2
          have HE : Hid (∀ W, Calls Tryd.prog 63 #[.int .u8 (d.toNat : Int)] W fun e w' => e = .returned (.tuple #[.int .u8 0, .bool false]) ∧ W = w') := fun W => by
            refine (h0 W).mono ?_
            rintro e w' ⟨h1, h2⟩
            rw [if_pos hix] at h1
            exact ⟨h1, h2.symm⟩
          have hfin : Hid (RdPost w R (.returned (.tuple #[.string ⟨#[]⟩, .bool false, .int .i64 3])) wr) := by
            refine ⟨hbw, ?_⟩
            subst hG2
            rfl
          clear hM hS hG2 h0 hix
          go_wp2_with (first | (go_at_call 53; refine (HP.out _).mono ?_; rintro e w9 ⟨rfl, rfl⟩) | (go_at_call 63; refine (HE.out _).mono ?_; rintro e w9 ⟨rfl, rfl⟩))
          exact bodyPost_ret (v := .tuple #[.string ⟨#[]⟩, .bool false, .int .i64 3]) (by simp [results, Tryd.results48, go_sem]) rfl hfin.out
        · rw [if_neg hix] at hG2
          have HE : Hid (∀ W, Calls Tryd.prog 63 #[.int .u8 (d.toNat : Int)] W fun e w' => e = .returned (.tuple #[.int .u8 ((Ch.hid.getD (Lib.indexByte Ch.lets d).toNat 0).toNat : Int), .bool true]) ∧ W = w') := fun W => by
            refine (h0 W).mono ?_
            rintro e w' ⟨h1, h2⟩
            rw [if_neg hix] at h1
            exact ⟨h1, h2.symm⟩
          clear h0 hix
          generalize Ch.hid.getD (Lib.indexByte Ch.lets d).toNat 0 = u at *
          obtain ⟨a', c', W', hap, hS', hb'⟩ := app_byte (hS.out.below (Rg.al1 wr (.cells #[.int .u8 (u.toNat : Int)] 5))) (Nat.le_trans hbw.size (Rg.al1 _ _).size) u wr.heap.size (Rg.Bk.new rfl) (by rw [← hM.out]; omega)
          rw [← hM.out] at hap
          replace hap := Rg.hid hap
          have hM' : Hid (M + 1 = (acc ++ [u]).length) := by show _ = _; rw [List.length_append, List.length_singleton, hM.out]
          have hbw' := Rg.hid ((hbw.trans ((Rg.al1 _ _).mono hbw.size)).trans hb')
          replace hG2 := Rg.hid hG2
          replace hS' := Rg.hid hS'
          generalize hcn : (u.toNat : Int) = cn at *
          replace hcn := Rg.hid hcn
          clear hM hS hb' hbw
          go_wp2_with (first
            | (go_at_call 53; refine (HP.out _).mono ?_; rintro e w9 ⟨rfl, rfl⟩) | (go_at_call 63; refine (HE.out _).mono ?_; rintro e w9 ⟨rfl, rfl⟩)
            | (at_builtin; refine Rg.wpList_append_run rfl (.tmp 67) (.tmp 69) 60 rfl _ _ rfl rfl _ _ hap.out ?_))
          go_roundw
          case rel => exact ⟨i + 2, acc ++ [u], a', c', M + 1, n, by go_num, rfl, hM', hS', hG2, by omega, by omega, by omega, hbw'.out⟩
          case measure => simp [intOf]; omega
      · rw [Ch.rgo_odd _ _ _ _ hcw hpl h9] at hG2
        have g0 : ((c.toNat : Int) != 92) = true := by rw [bne_iff_ne]; intro e; exact h9 (Ch.u8_eq (n := 92) (by decide) (by omega))
        have hfin : Hid (RdPost w R (.returned (.tuple #[.string ⟨#[]⟩, .bool false, .int .i64 3])) wr) := by
          refine ⟨hbw, ?_⟩
          subst hG2
          rfl
        clear hM hS hG2 hpl hcw h9
        go_wp2_with (go_at_call 53; refine (HP.out _).mono ?_; rintro e w9 ⟨rfl, rfl⟩)
        exact bodyPost_ret (v := .tuple #[.string ⟨#[]⟩, .bool false, .int .i64 3]) (by simp [results, Tryd.results48, go_sem]) rfl hfin.out
    · obtain rfl : i = p.size := by omega
      rw [show p.data.toList.drop p.size = [] from List.drop_eq_nil_of_le (Nat.le_refl _), Ch.rgo_end] at hG2
      by_cases ha : acc = []
      · rw [if_pos ha] at hG2
        have hM0 : M = 0 := by rw [hM.out, ha]; rfl
        subst hM0
        have hfin : Hid (RdPost w R (.returned (.tuple #[.string ⟨#[]⟩, .bool false, .int .i64 3])) wr) := by
          refine ⟨hbw, ?_⟩
          subst hG2
          rfl
        clear hM hS hG2 ha
        go_wp2
        exact bodyPost_ret (v := .tuple #[.string ⟨#[]⟩, .bool false, .int .i64 3]) (by simp [results, Tryd.results48, go_sem]) rfl hfin.out
      · rw [if_neg ha] at hG2
        have hMn : 0 < M := by rw [hM.out]; exact List.length_pos_iff.2 ha
        have e2 : ((M : Int) == 0) = false := by rw [beq_eq_false_iff_ne]; omega
        have hcv := conv_sow hS.out
        rw [← hM.out] at hcv
        have hfin : Hid (RdPost w R (.returned (.tuple #[.string ⟨acc.toArray⟩, .bool false, .int .i64 0])) wr) := by
          refine ⟨hbw, ?_⟩
          subst hG2
          rfl
        generalize (⟨acc.toArray⟩ : ByteArray) = T at *
        clear hM hS hG2 ha hMn
        go_wp2
        exact bodyPost_ret (v := .tuple #[.string T, .bool false, .int .i64 0]) (by simp [results, Tryd.results48, go_sem]) rfl hfin.out

set_option maxHeartbeats 1000000 in
set_option maxRecDepth 100000 in
theorem read_q_false (p : ByteArray) (w : World) (h : p.data.toList = [34, 34]) :
    Calls Tryd.prog 48 #[.string p, .bool false] w fun e w' => e = .returned (.tuple #[.string ⟨#[]⟩, .bool false, .int .i64 0]) ∧ w' = w := by
  have d0 : (p.toList == [34, 34]) = true := by rw [tl_eq, h]; rfl
  go_enter Tryd.func48, Tryd.ntmps48
  go_wp2
  exact bodyPost_ret (v := .tuple #[.string ⟨#[]⟩, .bool false, .int .i64 0]) (by simp [results, Tryd.results48, go_sem]) rfl ⟨rfl, rfl⟩

set_option maxHeartbeats 1000000 in
set_option maxRecDepth 100000 in
theorem read_go_false (p : ByteArray) (w : World) (h : p.data.toList ≠ [34, 34]) (hs : p.size ≤ 1000000) (hw : Ch.inWord p.data.toList) :
    Calls Tryd.prog 48 #[.string p, .bool false] w fun e w' => RdPost w (Ch.rgo false (p.data.toList.length + 1) p.data.toList []) e w' := by
  have d0 : (p.toList == [34, 34]) = false := by rw [tl_eq, beq_eq_false_iff_ne]; exact h
  obtain ⟨R, hR⟩ : ∃ R, Ch.rgo false (p.data.toList.length + 1) p.data.toList [] = R := ⟨_, rfl⟩
  rw [hR]
  have hpl : p.data.toList.length = p.size := rfl
  rw [hpl] at hR
  clear hpl
  replace hR := Rg.hid hR
  replace hw := Rg.hid hw
  clear h
  go_enter Tryd.func48, Tryd.ntmps48
  go_wp2
  go_loopw [7, 8] (fun vt vi wr => ∃ (i : Nat) (acc : List UInt8) (ya : Option Addr) (yc M n : Nat), vi = .int .i64 i ∧ vt = .slice ya M yc ∧ Hid (M = acc.length) ∧ Hid (Rg.Sow byteE w.heap.size wr ya yc acc) ∧ Hid (Ch.rgo false n (p.data.toList.drop i) acc = R) ∧ p.size < n + i ∧ i ≤ p.size ∧ M ≤ i ∧ Below w.heap.size w wr) (fun _ vi _ => p.size - (intOf vi).toNat)
  case atStart => exact ⟨0, [], none, 0, 0, p.size + 1, rfl, rfl, rfl, Rg.Sow.nil, hR, by omega, by omega, by omega, Below.refl _ _⟩
  case round =>
    obtain ⟨i, acc, ya, yc, M, n, rfl, rfl, hM, hS, hG, hn, hle, hle2, hbw⟩ := hrel
    clear hR
    obtain ⟨n, rfl⟩ : ∃ m, n = m + 1 := ⟨n - 1, by omega⟩
    have hG2 := hG.out
    clear hG
    by_cases hlt : i < p.size
    · rw [drop_at hlt] at hG2
      obtain ⟨c, hc⟩ : ∃ c, p[i] = c := ⟨_, rfl⟩
      rw [hc] at hG2
      have hcw : 33 ≤ c.toNat ∧ c.toNat ≤ 126 := hw.out c (by rw [← hc]; exact Array.getElem_mem_toList _)
      have hz0 : (0 : Int) ≤ (i : Int) := by omega
      have hz1 : (i : Int) < (p.size : Int) := by omega
      have HP : Hid (∀ W, Calls Tryd.prog 53 #[.int .u8 (c.toNat : Int)] W fun e w' => e = .returned (.bool (Ch.plain c)) ∧ W = w') := fun W => (rplain_any c W).mono fun e w' h => ⟨h.1, h.2.symm⟩
      by_cases hpl : Ch.plain c = true
      · rw [Ch.rgo_plain _ _ _ _ hpl] at hG2
        rw [hpl] at HP
        clear hpl hcw
        obtain ⟨a', c', W', hap, hS', hb'⟩ := app_byte (hS.out.below (Rg.al1 wr (.cells #[.int .u8 (c.toNat : Int)] 5))) (Nat.le_trans hbw.size (Rg.al1 _ _).size) c wr.heap.size (Rg.Bk.new rfl) (by rw [← hM.out]; omega)
        rw [← hM.out] at hap
        replace hap := Rg.hid hap
        have hM' : Hid (M + 1 = (acc ++ [c]).length) := by show _ = _; rw [List.length_append, List.length_singleton, hM.out]
        have hbw' := Rg.hid ((hbw.trans ((Rg.al1 _ _).mono hbw.size)).trans hb')
        replace hG2 := Rg.hid hG2
        replace hS' := Rg.hid hS'
        clear hM hS hb' hbw
        go_wp2_with (first
          | (go_at_call 53; refine (HP.out _).mono ?_; rintro e w9 ⟨rfl, rfl⟩)
          | (at_builtin; refine Rg.wpList_append_run rfl (.tmp 23) (.tmp 27) 60 rfl _ _ rfl rfl _ _ hap.out ?_))
        go_roundw
        case rel => exact ⟨i + 1, acc ++ [c], a', c', M + 1, n, by go_num, rfl, hM', hS', hG2, by omega, by omega, by omega, hbw'.out⟩
        case measure => simp [intOf]; omega
      replace hpl : Ch.plain c = false := by simpa using hpl
      rw [hpl] at HP
      by_cases h9 : c = 92
      · clear hcw
        subst h9
        by_cases hi1 : i + 1 = p.size
        · rw [show p.data.toList.drop (i + 1) = [] from List.drop_eq_nil_of_le (by show p.size ≤ _; omega), Ch.rgo_last] at hG2
          have g1 : ((i : Int) + 1 == (p.size : Int)) = true := by rw [beq_iff_eq]; omega
          have hfin : Hid (RdPost w R (.returned (.tuple #[.string ⟨#[]⟩, .bool false, .int .i64 3])) wr) := by
            refine ⟨hbw, ?_⟩
            subst hG2
            rfl
          clear hM hS hG2 hpl
          go_wp2_with (go_at_call 53; refine (HP.out _).mono ?_; rintro e w9 ⟨rfl, rfl⟩)
          exact bodyPost_ret (v := .tuple #[.string ⟨#[]⟩, .bool false, .int .i64 3]) (by simp [results, Tryd.results48, go_sem]) rfl hfin.out
        have hlt2 : i + 1 < p.size := by omega
        have g1 : ((i : Int) + 1 == (p.size : Int)) = false := by rw [beq_eq_false_iff_ne]; omega
        rw [drop_at hlt2] at hG2
        obtain ⟨d, hd⟩ : ∃ d, p[i + 1] = d := ⟨_, rfl⟩
        rw [hd] at hG2
        have hz2 : (0 : Int) ≤ (i : Int) + 1 := by omega
        have hz3 : (i : Int) + 1 < (p.size : Int) := by omega
        clear hpl
        by_cases h99 : d = 99
        · subst h99
          rw [Ch.rgo_esc _ _ _ _ _ (fun e => by cases e.1), if_pos (by decide)] at hG2
          have HE : Hid (∀ W, Calls Tryd.prog 63 #[.int .u8 99] W fun e w' => e = .returned (.tuple #[.int .u8 0, .bool false]) ∧ W = w') := fun W => by
            refine (rescape_any 99 W).mono ?_
            rintro e w' ⟨h1, h2⟩
            rw [if_pos (by decide)] at h1
            exact ⟨h1, h2.symm⟩
          have hfin : Hid (RdPost w R (.returned (.tuple #[.string ⟨#[]⟩, .bool false, .int .i64 3])) wr) := by
            refine ⟨hbw, ?_⟩
            subst hG2
            rfl
          clear hM hS hG2
          go_wp2_with (first | (go_at_call 53; refine (HP.out _).mono ?_; rintro e w9 ⟨rfl, rfl⟩) | (go_at_call 63; refine (HE.out _).mono ?_; rintro e w9 ⟨rfl, rfl⟩))
          exact bodyPost_ret (v := .tuple #[.string ⟨#[]⟩, .bool false, .int .i64 3]) (by simp [results, Tryd.results48, go_sem]) rfl hfin.out
        rw [Ch.rgo_esc _ _ _ _ _ (fun e => h99 e.2.1)] at hG2
        have g2 : ((d.toNat : Int) == 99) = false := by rw [beq_eq_false_iff_ne]; intro e; exact h99 (Ch.u8_eq (n := 99) (by decide) (by omega))
        have h0 := rescape_any d
        clear h99
        by_cases hix : Lib.indexByte Ch.lets d < 0
        · rw [if_pos hix] at hG2
          have HE : Hid (∀ W, Calls Tryd.prog 63 #[.int .u8 (d.toNat : Int)] W fun e w' => e = .returned (.tuple #[.int .u8 0, .bool false]) ∧ W = w') := fun W => by
            refine (h0 W).mono ?_
            rintro e w' ⟨h1, h2⟩
            rw [if_pos hix] at h1
            exact ⟨h1, h2.symm⟩
          have hfin : Hid (RdPost w R (.returned (.tuple #[.string ⟨#[]⟩, .bool false, .int .i64 3])) wr) := by
            refine ⟨hbw, ?_⟩
            subst hG2
            rfl
          clear hM hS hG2 h0 hix
          go_wp2_with (first | (go_at_call 53; refine (HP.out _).mono ?_; rintro e w9 ⟨rfl, rfl⟩) | (go_at_call 63; refine (HE.out _).mono ?_; rintro e w9 ⟨rfl, rfl⟩))
          exact bodyPost_ret (v := .tuple #[.string ⟨#[]⟩, .bool false, .int .i64 3]) (by simp [results, Tryd.results48, go_sem]) rfl hfin.out
        · rw [if_neg hix] at hG2
          have HE : Hid (∀ W, Calls Tryd.prog 63 #[.int .u8 (d.toNat : Int)] W fun e w' => e = .returned (.tuple #[.int .u8 ((Ch.hid.getD (Lib.indexByte Ch.lets d).toNat 0).toNat : Int), .bool true]) ∧ W = w') := fun W => by
            refine (h0 W).mono ?_
            rintro e w' ⟨h1, h2⟩
            rw [if_neg hix] at h1
            exact ⟨h1, h2.symm⟩
          clear h0 hix
          generalize Ch.hid.getD (Lib.indexByte Ch.lets d).toNat 0 = u at *
          obtain ⟨a', c', W', hap, hS', hb'⟩ := app_byte (hS.out.below (Rg.al1 wr (.cells #[.int .u8 (u.toNat : Int)] 5))) (Nat.le_trans hbw.size (Rg.al1 _ _).size) u wr.heap.size (Rg.Bk.new rfl) (by rw [← hM.out]; omega)
          rw [← hM.out] at hap
          replace hap := Rg.hid hap
          have hM' : Hid (M + 1 = (acc ++ [u]).length) := by show _ = _; rw [List.length_append, List.length_singleton, hM.out]
          have hbw' := Rg.hid ((hbw.trans ((Rg.al1 _ _).mono hbw.size)).trans hb')
          replace hG2 := Rg.hid hG2
          replace hS' := Rg.hid hS'
          generalize hcn : (u.toNat : Int) = cn at *
          replace hcn := Rg.hid hcn
          clear hM hS hb' hbw
          go_wp2_with (first
            | (go_at_call 53; refine (HP.out _).mono ?_; rintro e w9 ⟨rfl, rfl⟩) | (go_at_call 63; refine (HE.out _).mono ?_; rintro e w9 ⟨rfl, rfl⟩)
            | (at_builtin; refine Rg.wpList_append_run rfl (.tmp 67) (.tmp 69) 60 rfl _ _ rfl rfl _ _ hap.out ?_))
          go_roundw
          case rel => exact ⟨i + 2, acc ++ [u], a', c', M + 1, n, by go_num, rfl, hM', hS', hG2, by omega, by omega, by omega, hbw'.out⟩
          case measure => simp [intOf]; omega
      · rw [Ch.rgo_odd _ _ _ _ hcw hpl h9] at hG2
        have g0 : ((c.toNat : Int) != 92) = true := by rw [bne_iff_ne]; intro e; exact h9 (Ch.u8_eq (n := 92) (by decide) (by omega))
        have hfin : Hid (RdPost w R (.returned (.tuple #[.string ⟨#[]⟩, .bool false, .int .i64 3])) wr) := by
          refine ⟨hbw, ?_⟩
          subst hG2
          rfl
        clear hM hS hG2 hpl hcw h9
        go_wp2_with (go_at_call 53; refine (HP.out _).mono ?_; rintro e w9 ⟨rfl, rfl⟩)
        exact bodyPost_ret (v := .tuple #[.string ⟨#[]⟩, .bool false, .int .i64 3]) (by simp [results, Tryd.results48, go_sem]) rfl hfin.out
    · obtain rfl : i = p.size := by omega
      rw [show p.data.toList.drop p.size = [] from List.drop_eq_nil_of_le (Nat.le_refl _), Ch.rgo_end] at hG2
      by_cases ha : acc = []
      · rw [if_pos ha] at hG2
        have hM0 : M = 0 := by rw [hM.out, ha]; rfl
        subst hM0
        have hfin : Hid (RdPost w R (.returned (.tuple #[.string ⟨#[]⟩, .bool false, .int .i64 3])) wr) := by
          refine ⟨hbw, ?_⟩
          subst hG2
          rfl
        clear hM hS hG2 ha
        go_wp2
        exact bodyPost_ret (v := .tuple #[.string ⟨#[]⟩, .bool false, .int .i64 3]) (by simp [results, Tryd.results48, go_sem]) rfl hfin.out
      · rw [if_neg ha] at hG2
        have hMn : 0 < M := by rw [hM.out]; exact List.length_pos_iff.2 ha
        have e2 : ((M : Int) == 0) = false := by rw [beq_eq_false_iff_ne]; omega
        have hcv := conv_sow hS.out
        rw [← hM.out] at hcv
        have hfin : Hid (RdPost w R (.returned (.tuple #[.string ⟨acc.toArray⟩, .bool false, .int .i64 0])) wr) := by
          refine ⟨hbw, ?_⟩
          subst hG2
          rfl
        generalize (⟨acc.toArray⟩ : ByteArray) = T at *
        clear hM hS hG2 ha hMn
        go_wp2
        exact bodyPost_ret (v := .tuple #[.string T, .bool false, .int .i64 0]) (by simp [results, Tryd.results48, go_sem]) rfl hfin.out

theorem read_any (b : Bool) (p : ByteArray) (w : World) (hs : p.size ≤ 1000000) (hw : Ch.inWord p.data.toList) : Calls Tryd.prog 48 #[.string p, .bool b] w fun e w' => RdPost w (Ch.read b p.data.toList) e w' := by
  unfold Ch.read
  by_cases h : p.data.toList = [34, 34]
  · rw [if_pos h]
    cases b
    · exact (read_q_false p w h).mono fun e w' ⟨h1, h2⟩ => ⟨by rw [h2]; exact Below.refl _ _, h1⟩
    · exact (read_q_true p w h).mono fun e w' ⟨h1, h2⟩ => ⟨by rw [h2]; exact Below.refl _ _, h1⟩
  · rw [if_neg h]
    cases b
    · exact read_go_false p w h hs hw
    · exact read_go_true p w h hs hw
/-- behind the document's sent -/
def SdPost (w : World) (r : Option (List UInt8)) (e : Ending) (w' : World) : Prop := Below w.heap.size w w' ∧ match r with
  | some t => e = .returned (.tuple #[.string ⟨t.toArray⟩, .int .i64 0])
  | none => e = .returned (.tuple #[.string ⟨#[]⟩, .int .i64 3])

set_option maxHeartbeats 1000000 in
set_option maxRecDepth 100000 in
theorem sent_any (p : ByteArray) (w : World) (hs : p.size ≤ 1000000) (hw : Ch.inWord p.data.toList) : Calls Tryd.prog 31 #[.string p] w fun e w' => SdPost w (Ch.text true p.data.toList) e w' := by
  have H0 := read_any true p w hs hw
  rw [Ch.text_read]
  have hlen : ∀ t, Ch.read true p.data.toList = some t → t.1.length ≤ p.size := fun t h => Ch.read_len h
  generalize Ch.read true p.data.toList = r at *
  clear hw
  cases r with
  | none =>
    have HR : Hid (Calls Tryd.prog 48 #[.string p, .bool true] w fun e w' => e = .returned (.tuple #[.string ⟨#[]⟩, .bool false, .int .i64 3]) ∧ Hid (Below w.heap.size w w')) := H0.mono fun e w' h => ⟨h.2, h.1⟩
    clear H0 hlen
    go_enter Tryd.func31, Tryd.ntmps31
    go_wp2_with (go_at_call 48; refine HR.out.mono ?_; rintro e w9 ⟨rfl, b9⟩)
    exact bodyPost_ret (v := .tuple #[.string ⟨#[]⟩, .int .i64 3]) (by simp [results, Tryd.results31, go_sem]) rfl ⟨b9.out, rfl⟩
  | some q =>
    obtain ⟨t, bare⟩ := q
    have hl := hlen _ rfl
    dsimp only at hl
    obtain ⟨T, hT⟩ : ∃ T : ByteArray, (⟨t.toArray⟩ : ByteArray) = T := ⟨_, rfl⟩
    have hTs : T.size = t.length := by rw [← hT]; exact List.size_toArray
    have hm : ¬ 9223372036854775807 < T.size + 1 := by omega
    have HR : Hid (Calls Tryd.prog 48 #[.string p, .bool true] w fun e w' => e = .returned (.tuple #[.string T, .bool bare, .int .i64 0]) ∧ Hid (Below w.heap.size w w')) := H0.mono fun e w' h => ⟨by rw [← hT]; exact h.2, h.1⟩
    clear H0 hlen
    cases bare
    · have hfin : Hid (∀ w9, Below w.heap.size w w9 → SdPost w ((some (t, false)).map (Ch.whole true)) (.returned (.tuple #[.string (T ++ ⟨#[13]⟩), .int .i64 0])) w9) := fun w9 b9 => ⟨b9, by
        show _ = _
        rw [← hT]
        congr 2⟩
      clear hT hTs hl
      go_enter Tryd.func31, Tryd.ntmps31
      go_wp2_with (go_at_call 48; refine HR.out.mono ?_; rintro e w9 ⟨rfl, b9⟩)
      exact bodyPost_ret (v := .tuple #[.string (T ++ ⟨#[13]⟩), .int .i64 0]) (by simp [results, Tryd.results31, go_sem]) rfl (hfin.out _ b9.out)
    · have hfin : Hid (∀ w9, Below w.heap.size w w9 → SdPost w ((some (t, true)).map (Ch.whole true)) (.returned (.tuple #[.string T, .int .i64 0])) w9) := fun w9 b9 => ⟨b9, by
        show _ = _
        rw [← hT]
        rfl⟩
      clear hT hTs hl hm
      go_enter Tryd.func31, Tryd.ntmps31
      go_wp2_with (go_at_call 48; refine HR.out.mono ?_; rintro e w9 ⟨rfl, b9⟩)
      exact bodyPost_ret (v := .tuple #[.string T, .int .i64 0]) (by simp [results, Tryd.results31, go_sem]) rfl (hfin.out _ b9.out)
end Go.Proofs.YtdclnimmfnlnhaaDoor
