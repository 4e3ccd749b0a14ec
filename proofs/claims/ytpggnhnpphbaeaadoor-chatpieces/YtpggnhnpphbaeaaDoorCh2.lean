/-
  Layer 8: readText.
-/
import Derived.Test.YtpggnhnpphbaeaaDoorCh1
import Derived.Laws.IdiomStrings
namespace Go.Proofs.YtpggnhnpphbaeaaDoor
open Go.RowKit

def byteE : Rg.El UInt8 := { enc := fun b => [.int .u8 (b.toNat : Int)], m := 1, hm := fun _ => rfl, pos := by decide, one := fun x u hu => by simp at hu; subst hu; rfl, ty := 5 }
theorem byte_flat (l : List UInt8) : byteE.flat l = l.map (fun b => Value.int .u8 (b.toNat : Int)) := by
  induction l with
  | nil => rfl
  | cons x l ih => rw [byteE.flat_cons, ih]; rfl
theorem infoByte : (Tryd.prog.info? 5).map (fun i => (i.zero, i.size, i.bytes)) = some (some (.int .u8 0), 1, 1) := by kernel_rfl
theorem infoByte' : ∃ i0, Tryd.prog.info? 5 = some i0 ∧ i0.zero = some (.int .u8 0) ∧ i0.size = 1 ∧ i0.bytes = 1 := by
  have h := infoByte
  cases e : Tryd.prog.info? 5 with
  | none => rw [e] at h; cases h
  | some i0 => rw [e] at h; simp at h; exact ⟨i0, rfl, h.1, h.2.1, h.2.2⟩
theorem conv_bytes {W : World} {b o cap : Nat} {l : List UInt8} (h : Rg.At W b o (byteE.flat l)) : (convert 51 9 (.slice (some ⟨b, o, none⟩) l.length cap)).run Tryd.prog W = .ok (.string ⟨l.toArray⟩) W :=
  run_convert_bytes_back W 51 9 5 ⟨b, o, none⟩ cap l Tryd.underlying51 Tryd.underlying5 Tryd.underlying9 (fun j hj => by
    rw [byte_flat] at h
    exact h.add j _ (by simp [hj]))
theorem conv_none (W : World) : (convert 51 9 (.slice none 0 0)).run Tryd.prog W = .ok (.string ⟨#[]⟩) W := by
  rw [run_convert_bytes_string W 51 9 5 none 0 0 Tryd.underlying51 Tryd.underlying5 Tryd.underlying9]
  rfl
theorem conv_sow {W : World} {base cap : Nat} {a : Option Addr} {l : List UInt8} (h : Rg.Sow byteE base W a cap l) : (convert 51 9 (.slice a l.length cap)).run Tryd.prog W = .ok (.string ⟨l.toArray⟩) W := by
  rcases h with ⟨rfl, rfl, rfl⟩ | ⟨g, rest, rfl, h⟩
  · exact conv_none W
  · exact conv_bytes h.row
/-- append of one byte -/
theorem app_byte {base cap : Nat} {W : World} {a : Option Addr} {l : List UInt8} (h : Rg.Sow byteE base W a cap l) (hB : base ≤ W.heap.size) (x : UInt8) (ad : Nat) (hk : Rg.Bk ad [.int .u8 (x.toNat : Int)] 5 W) (hlen : l.length ≤ 1000000000) :
    ∃ a' cap' W', (Builtin.append_ #[51, 51] 51 #[.slice a l.length cap, .slice (some ⟨ad, 0, none⟩) 1 1]).run Tryd.prog W = .ok (.slice a' (l.length + 1) cap') W' ∧ Rg.Sow byteE base W' a' cap' (l ++ [x]) ∧ Below base W W' := by
  obtain ⟨i0, hi, hz0, hz1, hz2⟩ := infoByte'
  obtain ⟨a', cap', W', h1, h2, h3, _⟩ := h.append (P := Tryd.prog) hB x 51 51 i0 _ 1 Tryd.underlying51 hi hz0 hz1 hz2 rfl ad (fun t u ht => by rw [Nat.zero_add, hk.cell]; exact ht) (by omega) (by unfold maxLen; omega)
  exact ⟨a', cap', W', h1, h2, h3⟩
/-- a text's length, of a value -/
def strLen : Value → Nat
  | .string s => s.size
  | _ => 0
theorem ba_ext {a b : ByteArray} (h : a.data.toList = b.data.toList) : a = b := by
  cases a; cases b; simp only at h; congr 1; exact Array.toList_inj.1 h
theorem ba_ex2 (s : ByteArray) (k : Nat) : (s.extract k s.size).data.toList = s.data.toList.drop k := by
  simp [List.extract_eq_take_drop]
  exact List.take_of_length_le (by rw [List.length_drop]; exact Nat.le_refl _)
/-- behind a reader of a word: the text, or it gives up -/
def TPost (w : World) (r : Option (List UInt8)) (e : Ending) (w' : World) : Prop := Below w.heap.size w w' ∧ match r with
  | some t => e = .returned (.string ⟨t.toArray⟩)
  | none => e = .panicked [giveUp]

set_option maxHeartbeats 1000000 in
set_option maxRecDepth 100000 in
theorem rtext_q_true (p : ByteArray) (w : World) (h : p.data.toList = [34, 34]) :
    Calls Tryd.prog 29 #[.string p, .bool true] w fun e w' => e = .returned (.string ⟨#[13]⟩) ∧ w' = w := by
  have d0 : (p.toList == [34, 34]) = true := by rw [tl_eq, h]; rfl
  go_enter Tryd.func29, Tryd.ntmps29
  go_wp2
  go_ret
  exact ⟨rfl, rfl⟩

set_option maxHeartbeats 1000000 in
set_option maxRecDepth 100000 in
theorem rtext_go_true (p : ByteArray) (w : World) (h : p.data.toList ≠ [34, 34]) (hs : p.size ≤ 1000000) :
    Calls Tryd.prog 29 #[.string p, .bool true] w fun e w' => TPost w (Ch.go true (p.data.toList.length + 1) p.data.toList []) e w' := by
  have d0 : (p.toList == [34, 34]) = false := by rw [tl_eq, beq_eq_false_iff_ne]; exact h
  obtain ⟨R, hR⟩ : ∃ R, Ch.go true (p.data.toList.length + 1) p.data.toList [] = R := ⟨_, rfl⟩
  rw [hR]
  have hpl : p.data.toList.length = p.size := rfl
  rw [hpl] at hR
  replace hR := Rg.hid hR
  clear h
  go_enter Tryd.func29, Tryd.ntmps29
  go_wp2
  go_loopw [6, 7] (fun vt vr wr => ∃ (rest : ByteArray) (acc : List UInt8) (ya : Option Addr) (yc M n : Nat), vr = .string rest ∧ vt = .slice ya M yc ∧ Hid (M = acc.length) ∧ Hid (Rg.Sow byteE w.heap.size wr ya yc acc) ∧ Hid (Ch.go true n rest.data.toList acc = R) ∧ rest.size < n ∧ M + rest.size ≤ p.size ∧ Below w.heap.size w wr) (fun _ vr _ => strLen vr)
  case atStart => exact ⟨p, [], none, 0, 0, p.size + 1, rfl, rfl, rfl, Rg.Sow.nil, hR, by omega, by omega, Below.refl _ _⟩
  case round =>
    obtain ⟨rest, acc, ya, yc, M, n, rfl, rfl, hM, hS, hG, hn, hle, hbw⟩ := hrel
    clear hR
    obtain ⟨n, rfl⟩ : ∃ m, n = m + 1 := ⟨n - 1, by omega⟩
    by_cases hr : rest.data.toList = []
    · have e0 : (rest.toList == []) = true := by rw [tl_eq, hr]; rfl
      have e1 : (rest.toList != []) = false := by rw [tl_eq, hr]; rfl
      have hG2 := hG.out
      simp only [Ch.go, hr, if_true] at hG2
      clear hG
      by_cases ha : acc = []
      · rw [if_pos ha] at hG2
        have hM0 : M = 0 := by rw [hM.out, ha]; rfl
        subst hM0
        subst hG2
        clear hM hS ha hr
        go_wp2
        exact ⟨rfl, hbw, rfl⟩
      · rw [if_neg ha] at hG2
        have hMn : 0 < M := by rw [hM.out]; exact List.length_pos_iff.2 ha
        have e2 : ((M : Int) == 0) = false := by rw [beq_eq_false_iff_ne]; omega
        have hcv := conv_sow hS.out
        rw [← hM.out] at hcv
        obtain ⟨T, hT⟩ : ∃ T : ByteArray, (⟨acc.toArray⟩ : ByteArray) = T := ⟨_, rfl⟩
        rw [hT] at hcv
        have hm : ¬ 9223372036854775807 < T.size + 1 := by rw [← hT]; show ¬ _ < acc.toArray.size + _; rw [List.size_toArray, ← hM.out]; omega
        have hfin : Hid (TPost w R (.returned (.string (T ++ ⟨#[13]⟩))) wr) := by
          refine ⟨hbw, ?_⟩
          subst hG2
          show _ = _
          rw [← hT]
          congr 2
        clear hT hM hS ha hr hG2 hMn
        go_wp2
        go_ret
        exact hfin.out
    · have e0 : (rest.toList == []) = false := by rw [tl_eq, beq_eq_false_iff_ne]; exact hr
      have e1 : (rest.toList != []) = true := by rw [tl_eq, bne_iff_ne]; exact hr
      have hrl : 0 < rest.size := List.length_pos_iff.2 hr
      have hG2 := hG.out
      simp only [Ch.go, hr, if_false] at hG2
      clear hG
      by_cases hbr : rest.data.toList = [92, 99]
      · have f0 : (rest.toList == [92, 99]) = true := by rw [tl_eq, hbr]; rfl
        rw [if_pos ⟨(by first | trivial | rfl), hbr⟩] at hG2
        have hcv := conv_sow hS.out
        rw [← hM.out] at hcv
        have hfin : Hid (TPost w R (.returned (.string ⟨acc.toArray⟩)) wr) := by
          refine ⟨hbw, ?_⟩
          subst hG2
          rfl
        generalize (⟨acc.toArray⟩ : ByteArray) = T at *
        clear hM hS hr hG2 hbr
        go_wp2
        go_ret
        exact hfin.out
      rw [if_neg (fun h => hbr h.2)] at hG2
      have f0 : (rest.toList == [92, 99]) = false := by rw [tl_eq, beq_eq_false_iff_ne]; exact hbr
      clear hbr
      cases hsg : Ch.sign rest.data.toList with
      | none =>
        rw [hsg] at hG2
        have HS : Hid (∀ W, Calls Tryd.prog 34 #[.string rest] W fun e w' => e = .panicked [giveUp] ∧ W = w') := fun W => (rsign_none rest W hrl hsg).mono fun e w' h => ⟨h.1, h.2.symm⟩
        subst hG2
        clear hsg hM hS hr
        go_wp2_with (go_at_call 34; refine (HS.out _).mono ?_; rintro e w9 ⟨rfl, rfl⟩)
        exact ⟨rfl, hbw, rfl⟩
      | some ck =>
        obtain ⟨c, k⟩ := ck
        rw [hsg] at hG2
        dsimp only at hG2
        have HS : Hid (∀ W, Calls Tryd.prog 34 #[.string rest] W fun e w' => e = .returned (.tuple #[.int .u8 (c.toNat : Int), .int .i64 k]) ∧ W = w') := fun W => (rsign_some rest c k W hsg).mono fun e w' h => ⟨h.1, h.2.symm⟩
        have hk : 1 ≤ k ∧ k ≤ rest.size := Ch.sign_pos hsg
        obtain ⟨a', c', W', hap, hS', hb'⟩ := app_byte (hS.out.below (Rg.al1 wr (.cells #[.int .u8 (c.toNat : Int)] 5))) (Nat.le_trans hbw.size (Rg.al1 _ _).size) c wr.heap.size (Rg.Bk.new rfl) (by rw [← hM.out]; omega)
        rw [← hM.out] at hap
        replace hap := Rg.hid hap
        have hM' : Hid (M + 1 = (acc ++ [c]).length) := by show _ = _; rw [List.length_append, List.length_singleton, hM.out]
        have hbw' := Rg.hid ((hbw.trans ((Rg.al1 _ _).mono hbw.size)).trans hb')
        obtain ⟨rest2, hr2⟩ : ∃ r2, rest.extract k rest.size = r2 := ⟨_, rfl⟩
        have hG3 : Hid (Ch.go true n rest2.data.toList (acc ++ [c]) = R) := by show _ = _; rw [← hr2, ba_ex2]; exact hG2
        have hsz : rest2.size + k = rest.size := by rw [← hr2]; simp [ByteArray.size_extract]; omega
        have hz0 : (0 : Int) ≤ (k : Int) := by omega
        have hz1 : (k : Int) ≤ (rest.size : Int) := by omega
        generalize (c.toNat : Int) = cn at *
        replace hS' := Rg.hid hS'
        clear hsg hM hS hr hG2 hb' hbw
        go_wp2_with (first
          | (go_at_call 34; refine (HS.out _).mono ?_; rintro e w9 ⟨rfl, rfl⟩)
          | (at_builtin; refine Rg.wpList_append_run rfl (.tmp 29) (.tmp 31) 51 rfl _ _ rfl rfl _ _ hap.out ?_))
        go_roundw
        case rel => exact ⟨rest2, acc ++ [c], a', c', M + 1, n, rfl, rfl, hM', hS', hG3, by omega, by omega, hbw'.out⟩
        case measure => simp [strLen]; omega

set_option maxHeartbeats 1000000 in
set_option maxRecDepth 100000 in
theorem rtext_q_false (p : ByteArray) (w : World) (h : p.data.toList = [34, 34]) :
    Calls Tryd.prog 29 #[.string p, .bool false] w fun e w' => e = .returned (.string ⟨#[]⟩) ∧ w' = w := by
  have d0 : (p.toList == [34, 34]) = true := by rw [tl_eq, h]; rfl
  go_enter Tryd.func29, Tryd.ntmps29
  go_wp2
  go_ret
  exact ⟨rfl, rfl⟩

set_option maxHeartbeats 1000000 in
set_option maxRecDepth 100000 in
theorem rtext_go_false (p : ByteArray) (w : World) (h : p.data.toList ≠ [34, 34]) (hs : p.size ≤ 1000000) :
    Calls Tryd.prog 29 #[.string p, .bool false] w fun e w' => TPost w (Ch.go false (p.data.toList.length + 1) p.data.toList []) e w' := by
  have d0 : (p.toList == [34, 34]) = false := by rw [tl_eq, beq_eq_false_iff_ne]; exact h
  obtain ⟨R, hR⟩ : ∃ R, Ch.go false (p.data.toList.length + 1) p.data.toList [] = R := ⟨_, rfl⟩
  rw [hR]
  have hpl : p.data.toList.length = p.size := rfl
  rw [hpl] at hR
  replace hR := Rg.hid hR
  clear h
  go_enter Tryd.func29, Tryd.ntmps29
  go_wp2
  go_loopw [6, 7] (fun vt vr wr => ∃ (rest : ByteArray) (acc : List UInt8) (ya : Option Addr) (yc M n : Nat), vr = .string rest ∧ vt = .slice ya M yc ∧ Hid (M = acc.length) ∧ Hid (Rg.Sow byteE w.heap.size wr ya yc acc) ∧ Hid (Ch.go false n rest.data.toList acc = R) ∧ rest.size < n ∧ M + rest.size ≤ p.size ∧ Below w.heap.size w wr) (fun _ vr _ => strLen vr)
  case atStart => exact ⟨p, [], none, 0, 0, p.size + 1, rfl, rfl, rfl, Rg.Sow.nil, hR, by omega, by omega, Below.refl _ _⟩
  case round =>
    obtain ⟨rest, acc, ya, yc, M, n, rfl, rfl, hM, hS, hG, hn, hle, hbw⟩ := hrel
    clear hR
    obtain ⟨n, rfl⟩ : ∃ m, n = m + 1 := ⟨n - 1, by omega⟩
    by_cases hr : rest.data.toList = []
    · have e0 : (rest.toList == []) = true := by rw [tl_eq, hr]; rfl
      have e1 : (rest.toList != []) = false := by rw [tl_eq, hr]; rfl
      have hG2 := hG.out
      simp only [Ch.go, hr, if_true] at hG2
      clear hG
      by_cases ha : acc = []
      · rw [if_pos ha] at hG2
        have hM0 : M = 0 := by rw [hM.out, ha]; rfl
        subst hM0
        subst hG2
        clear hM hS ha hr
        go_wp2
        exact ⟨rfl, hbw, rfl⟩
      · rw [if_neg ha] at hG2
        have hMn : 0 < M := by rw [hM.out]; exact List.length_pos_iff.2 ha
        have e2 : ((M : Int) == 0) = false := by rw [beq_eq_false_iff_ne]; omega
        have hcv := conv_sow hS.out
        rw [← hM.out] at hcv
        obtain ⟨T, hT⟩ : ∃ T : ByteArray, (⟨acc.toArray⟩ : ByteArray) = T := ⟨_, rfl⟩
        rw [hT] at hcv
        have hm : ¬ 9223372036854775807 < T.size + 0 := by rw [← hT]; show ¬ _ < acc.toArray.size + _; rw [List.size_toArray, ← hM.out]; omega
        have hfin : Hid (TPost w R (.returned (.string (T ++ ⟨#[]⟩))) wr) := by
          refine ⟨hbw, ?_⟩
          subst hG2
          show _ = _
          rw [← hT]
          congr 2
          (try (apply ba_ext; simp [Ch.fin]))
        clear hT hM hS ha hr hG2 hMn
        go_wp2
        go_ret
        exact hfin.out
    · have e0 : (rest.toList == []) = false := by rw [tl_eq, beq_eq_false_iff_ne]; exact hr
      have e1 : (rest.toList != []) = true := by rw [tl_eq, bne_iff_ne]; exact hr
      have hrl : 0 < rest.size := List.length_pos_iff.2 hr
      have hG2 := hG.out
      simp only [Ch.go, hr, if_false] at hG2
      clear hG
      rw [if_neg (fun h => by cases h.1)] at hG2
      cases hsg : Ch.sign rest.data.toList with
      | none =>
        rw [hsg] at hG2
        have HS : Hid (∀ W, Calls Tryd.prog 34 #[.string rest] W fun e w' => e = .panicked [giveUp] ∧ W = w') := fun W => (rsign_none rest W hrl hsg).mono fun e w' h => ⟨h.1, h.2.symm⟩
        subst hG2
        clear hsg hM hS hr
        go_wp2_with (go_at_call 34; refine (HS.out _).mono ?_; rintro e w9 ⟨rfl, rfl⟩)
        exact ⟨rfl, hbw, rfl⟩
      | some ck =>
        obtain ⟨c, k⟩ := ck
        rw [hsg] at hG2
        dsimp only at hG2
        have HS : Hid (∀ W, Calls Tryd.prog 34 #[.string rest] W fun e w' => e = .returned (.tuple #[.int .u8 (c.toNat : Int), .int .i64 k]) ∧ W = w') := fun W => (rsign_some rest c k W hsg).mono fun e w' h => ⟨h.1, h.2.symm⟩
        have hk : 1 ≤ k ∧ k ≤ rest.size := Ch.sign_pos hsg
        obtain ⟨a', c', W', hap, hS', hb'⟩ := app_byte (hS.out.below (Rg.al1 wr (.cells #[.int .u8 (c.toNat : Int)] 5))) (Nat.le_trans hbw.size (Rg.al1 _ _).size) c wr.heap.size (Rg.Bk.new rfl) (by rw [← hM.out]; omega)
        rw [← hM.out] at hap
        replace hap := Rg.hid hap
        have hM' : Hid (M + 1 = (acc ++ [c]).length) := by show _ = _; rw [List.length_append, List.length_singleton, hM.out]
        have hbw' := Rg.hid ((hbw.trans ((Rg.al1 _ _).mono hbw.size)).trans hb')
        obtain ⟨rest2, hr2⟩ : ∃ r2, rest.extract k rest.size = r2 := ⟨_, rfl⟩
        have hG3 : Hid (Ch.go false n rest2.data.toList (acc ++ [c]) = R) := by show _ = _; rw [← hr2, ba_ex2]; exact hG2
        have hsz : rest2.size + k = rest.size := by rw [← hr2]; simp [ByteArray.size_extract]; omega
        have hz0 : (0 : Int) ≤ (k : Int) := by omega
        have hz1 : (k : Int) ≤ (rest.size : Int) := by omega
        generalize (c.toNat : Int) = cn at *
        replace hS' := Rg.hid hS'
        clear hsg hM hS hr hG2 hb' hbw
        go_wp2_with (first
          | (go_at_call 34; refine (HS.out _).mono ?_; rintro e w9 ⟨rfl, rfl⟩)
          | (at_builtin; refine Rg.wpList_append_run rfl (.tmp 29) (.tmp 31) 51 rfl _ _ rfl rfl _ _ hap.out ?_))
        go_roundw
        case rel => exact ⟨rest2, acc ++ [c], a', c', M + 1, n, rfl, rfl, hM', hS', hG3, by omega, by omega, hbw'.out⟩
        case measure => simp [strLen]; omega

theorem rtext_any (sent : Bool) (p : ByteArray) (w : World) (hs : p.size ≤ 1000000) : Calls Tryd.prog 29 #[.string p, .bool sent] w fun e w' => TPost w (Ch.text sent p.data.toList) e w' := by
  unfold Ch.text
  by_cases h : p.data.toList = [34, 34]
  · rw [if_pos h]
    cases sent
    · exact (rtext_q_false p w h).mono fun e w' ⟨h1, h2⟩ => ⟨by rw [h2]; exact Below.refl _ _, h1⟩
    · exact (rtext_q_true p w h).mono fun e w' ⟨h1, h2⟩ => ⟨by rw [h2]; exact Below.refl _ _, h1⟩
  · rw [if_neg h]
    cases sent
    · exact rtext_go_false p w h hs
    · exact rtext_go_true p w h hs
end Go.Proofs.YtpggnhnpphbaeaaDoor
