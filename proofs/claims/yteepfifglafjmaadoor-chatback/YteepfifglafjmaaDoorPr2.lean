/-
  Layer 8: putSigns, putText, putSent.
-/
import Derived.Test.YteepfifglafjmaaDoorPr1
namespace Go.Proofs.YteepfifglafjmaaDoor
open Go.RowKit

theorem wpList_append_run2K {P : Program} {w : World} {ops : Array Oper} {rest : List Oper} {o : Oper} {a : Act} {Q : Exit → Act → World → Prop} (hw : Region.wanted o (yielded ops a.tmps) = true) (s x : Operand) (t t2 : TypeId)
    (ho : o.op = .call { callee := .builtin .append, args := #[s, x], argTypes := #[t, t2] }) (v u : Value) (hs : a.eval s = v) (hx : a.eval x = u) (v' : Value) (w' : World)
    (hrun : (Builtin.append_ #[t, t2] o.type #[v, u]).run P w = .ok v' w') (h : wpList P ops Q rest (a.put o.dst v') w') : wpList P ops Q (o :: rest) a w := by
  refine wpList_step fun K hK => ?_
  rw [if_pos hw]
  unfold Oper.wp
  simp [execOp, ho, resolve, invoke, builtin, hs, hx, hrun, Result.andThen]
  exact hK _ _ h
theorem lu2 (k : Nat) (hk : k < 6) (u : UInt8) (hu : Ch.lets.getD k 0 = u) : (⟨#[114, 110, 115, 109, 113, 92]⟩ : ByteArray)[k]'hk = u := by
  subst hu
  have : k = 0 ∨ k = 1 ∨ k = 2 ∨ k = 3 ∨ k = 4 ∨ k = 5 := by omega
  rcases this with rfl | rfl | rfl | rfl | rfl | rfl <;> rfl

set_option maxHeartbeats 4000000 in
set_option maxRecDepth 100000 in
theorem psigns_any (base : Nat) (v : Value) (l : List UInt8) (s : ByteArray) (w : World) (h : BOwn base w v l) (hB : base ≤ w.heap.size) (hl : l.length + 2 * s.size ≤ 900000000) :
    Calls Tryd.prog 54 #[v, .string s] w fun e w' => BPost base w (l ++ Ch.putS s.data.toList) e w' := by
  obtain ⟨CP, w1, fr, C, hcv, hb1, hQ, hC⟩ := conv_text w s
  have hO1 : BOwn base w1 v (l ++ Ch.putS (s.data.toList.take 0)) := by simpa [Ch.putS] using h.below hb1
  replace hO1 := Rg.hid hO1
  have hk1 := Rg.hid (Keep.below hb1)
  replace hb1 := Rg.hid hb1
  replace hQ := Rg.hid hQ
  replace hC := Rg.hid hC
  obtain ⟨N, hN⟩ : ∃ N, N = s.size := ⟨_, rfl⟩
  have hsl : s.data.toList.length = s.size := rfl
  rw [← hN] at hcv hl
  replace hN := Rg.hid hN
  clear h
  go_enter Tryd.func54, Tryd.ntmps54
  go_wp2
  go_loopw [0, 11] (fun va vi wr => ∃ (i : Nat) (v : Value), i ≤ N ∧ vi = .int .i64 i ∧ v = va ∧ Hid (BOwn base wr v (l ++ Ch.putS (s.data.toList.take i))) ∧ Hid (Below base w wr) ∧ Hid (Keep w1 wr)) (fun _ vi _ => N - (intOf vi).toNat)
  case atStart => exact ⟨0, v, Nat.zero_le _, rfl, rfl, hO1, hb1.out.mono hB, Keep.refl _⟩
  case round =>
    clear hO1
    obtain ⟨i, v, hin, rfl, rfl, hO, hbw, hkw⟩ := hrel
    by_cases hlt : i < N
    · have hil : i < s.size := by rw [← hN.out]; exact hlt
      have hcell : wr.cell? ⟨w.heap.size, i, none⟩ = some (.int .u8 (s[i].toNat : Int)) := by
        have h1 := hkw.out _ _ hQ.out (fun C' e => by injection e with _ _ e; injection e with _ e; omega)
        rw [Lib.cell_of_heap h1 i]
        exact hC.out i hil
      have htk : Hid (l ++ Ch.putS (s.data.toList.take (i + 1)) = (l ++ Ch.putS (s.data.toList.take i)) ++ Ch.put1 s[i]) := by
        show _ = _
        rw [List.take_succ_eq_append_getElem (by rw [hsl]; exact hil), Ch.putS_snoc, ← List.append_assoc]
        rfl
      have hol : (l ++ Ch.putS (s.data.toList.take i)).length ≤ 900000000 := by
        have h1 := Ch.putS_len (s.data.toList.take i)
        rw [List.length_append]
        rw [List.length_take] at h1
        omega
      have hz0 : (0 : Int) ≤ (i : Int) := by omega
      have hz1 : (i : Int) < (N : Int) := by omega
      have hsz := Nat.le_trans hB hbw.out.size
      have HI : Hid (∀ W, Calls Tryd.prog 62 #[.string ⟨#[13, 10, 32, 45, 34, 92]⟩, .int .u8 (s[i].toNat : Int)] W fun e w' => e = .returned (.int .i64 (Lib.indexByte Ch.hid s[i])) ∧ W = w') := fun W => by
        have := Tryd.strings_IndexByte ⟨#[13, 10, 32, 45, 34, 92]⟩ (s[i].toNat : Int) W
        rw [show (s[i].toNat : Int).toNat.toUInt8 = s[i] by simp] at this
        exact this.mono fun e w' h => ⟨h.1, h.2.symm⟩
      have hp1 : Ch.put1 s[i] = if 0 ≤ Lib.indexByte Ch.hid s[i] then [92, Ch.lets.getD (Lib.indexByte Ch.hid s[i]).toNat 0] else [s[i]] := rfl
      have hrg := idx_range Ch.hid s[i]
      generalize Ch.put1 s[i] = pu at *
      generalize s[i] = c at *
      generalize Lib.indexByte Ch.hid c = I at *
      rcases hrg with rfl | ⟨k, hk, rfl⟩
      · rw [if_neg (by decide)] at hp1
        subst hp1
        have bA := Rg.al1 wr (.cells #[.int .u8 (c.toNat : Int)] 5)
        obtain ⟨v2, w3, hap, hO3, hb3, hk3⟩ := (hO.out.below bA).put [c] 1 rfl wr.heap.size (Rg.Bk.new rfl) (Nat.le_trans hsz bA.size) (by rw [List.length_singleton]; omega)
        rw [← htk.out] at hO3
        have hb4 := Rg.hid ((hbw.out.trans (bA.mono hsz)).trans hb3)
        have hk4 := Rg.hid ((hkw.out.trans (Keep.below bA)).trans hk3)
        replace hap := Rg.hid hap
        replace hO3 := Rg.hid hO3
        clear hO hbw hkw hb3 hk3 bA htk hol hil
        go_wp2_with (first
          | (go_at_call 62; refine (HI.out _).mono ?_; rintro e w' ⟨rfl, rfl⟩)
          | (at_builtin; refine Rg.wpList_append_run rfl (.tmp 24) (.tmp 26) 45 rfl _ _ rfl rfl _ _ hap.out ?_))
        go_roundw
        case rel => exact ⟨i + 1, v2, by omega, by go_num, rfl, hO3, hb4, hk4⟩
        case measure => simp [intOf]; omega
      · have hk6 : k < 6 := hk
        rw [if_pos (by omega), Int.toNat_natCast] at hp1
        obtain ⟨u, hu⟩ : ∃ u, Ch.lets.getD k 0 = u := ⟨_, rfl⟩
        have hul := lu2 k hk6 u hu
        rw [hu] at hp1
        subst hp1
        have bA := Rg.al1 wr (.cells #[.int .u8 92, .int .u8 (u.toNat : Int)] 5)
        obtain ⟨v2, w3, hap, hO3, hb3, hk3⟩ := (hO.out.below bA).put [92, u] 2 rfl wr.heap.size (Rg.Bk.new rfl) (Nat.le_trans hsz bA.size) (by simp only [List.length_cons, List.length_nil]; omega)
        rw [← htk.out] at hO3
        have hb4 := Rg.hid ((hbw.out.trans (bA.mono hsz)).trans hb3)
        have hk4 := Rg.hid ((hkw.out.trans (Keep.below bA)).trans hk3)
        replace hap := Rg.hid hap
        replace hO3 := Rg.hid hO3
        have hz2 : (0 : Int) ≤ (k : Int) := by omega
        have hz3 : (k : Int) < 6 := by omega
        have hz4 : k < (⟨#[114, 110, 115, 109, 113, 92]⟩ : ByteArray).size := hk6
        have d0 : decide ((0 : Int) ≤ (k : Int)) = true := by simp only [decide_eq_true_eq]; omega
        clear hO hbw hkw hb3 hk3 bA htk hol hil hu
        go_wp2_with (first
          | (go_at_call 62; refine (HI.out _).mono ?_; rintro e w' ⟨rfl, rfl⟩)
          | (at_builtin; refine Rg.wpList_append_run rfl (.tmp 19) (.tmp 22) 45 rfl _ _ rfl rfl _ _ hap.out ?_))
        go_roundw
        case rel => exact ⟨i + 1, v2, by omega, by go_num, rfl, hO3, hb4, hk4⟩
        case measure => simp [intOf]; omega
    · obtain rfl : i = N := by omega
      have hO1 := hO.out
      rw [List.take_of_length_le (by rw [hsl, hN.out]; exact Nat.le_refl _)] at hO1
      have post : Hid (BPost base w (l ++ Ch.putS s.data.toList) (.returned v) wr) := ⟨v, rfl, hO1, hbw.out, hk1.out.trans hkw.out⟩
      clear hO hO1
      go_wp2
      exact bodyPost_ret (v := v) (by simp [results, Tryd.results54, go_sem]) rfl post.out

set_option maxHeartbeats 2000000 in
set_option maxRecDepth 100000 in
theorem ptext_any (base : Nat) (v : Value) (l : List UInt8) (s : ByteArray) (w : World) (h : BOwn base w v l) (hB : base ≤ w.heap.size) (hl : l.length + 2 * s.size ≤ 800000000) :
    Calls Tryd.prog 38 #[v, .string s] w fun e w' => BPost base w (l ++ Ch.putT s.data.toList) e w' := by
  unfold Ch.putT
  by_cases h0 : s.data.toList = []
  · rw [if_pos h0]
    have d0 : (s.toList == []) = true := by rw [tl_eq]; exact beq_iff_eq.2 h0
    obtain ⟨v2, w3, hap, hO3, hb3, hk3⟩ := h.adds ⟨#[34, 34]⟩ hB (by show _ + 2 ≤ _; omega)
    have post : Hid (BPost base w (l ++ [34, 34]) (.returned v2) w3) := ⟨v2, rfl, hO3, hb3, hk3⟩
    replace hap := Rg.hid hap
    clear h0 h hO3 hb3 hk3
    go_enter Tryd.func38, Tryd.ntmps38
    go_wp2_with (at_builtin; refine wpList_append_run2K rfl (.tmp 7) (.const (.string ⟨#[34, 34]⟩)) 45 9 rfl _ _ rfl rfl _ _ hap.out ?_)
    exact bodyPost_ret (v := v2) (by simp [results, Tryd.results38, go_sem]) rfl post.out
  · rw [if_neg h0]
    have d0 : (s.toList == []) = false := by rw [tl_eq]; exact beq_eq_false_iff_ne.2 h0
    have HS : Hid (Calls Tryd.prog 54 #[v, .string s] w fun e w' => ∃ v2, e = .returned v2 ∧ Hid (BOwn base w' v2 (l ++ Ch.putS s.data.toList) ∧ Below base w w' ∧ Keep w w')) := psigns_any base v l s w h hB (by omega)
    clear h0 h
    go_enter Tryd.func38, Tryd.ntmps38
    go_wp2_with (go_at_call 54; refine HS.out.mono ?_; rintro e w2 ⟨v2, rfl, h2⟩)
    exact bodyPost_ret (v := v2) (by simp [results, Tryd.results38, go_sem]) rfl ⟨v2, rfl, h2.out⟩

theorem pre13 (l : List UInt8) : Lib.hasPrefix l [13] = (l.head? == some 13) := by
  cases l with
  | nil => rfl
  | cons a r =>
    simp only [Lib.hasPrefix, List.isPrefixOf, List.head?_cons, Bool.and_true]
    by_cases h : a = 13
    · subst h; rfl
    · have h1 : ((13 : UInt8) == a) = false := by simp; exact fun c => h c.symm
      rw [h1]; symm; simpa using h
theorem suf13 (l : List UInt8) : Lib.hasSuffix l [13] = (l.getLast? == some 13) := by
  have := pre13 l.reverse
  unfold Lib.hasPrefix at this
  unfold Lib.hasSuffix List.isSuffixOf
  rw [List.head?_reverse] at this
  exact this
theorem trim13 {l : List UInt8} (h : Ch.ends l = true) : Lib.trimSuffix l [13] = l.dropLast := by
  unfold Lib.trimSuffix
  rw [suf13, show (l.getLast? == some 13) = true from h, if_pos rfl, List.dropLast_eq_take]
  rfl

set_option maxHeartbeats 2000000 in
set_option maxRecDepth 100000 in
theorem psent_any (base : Nat) (v : Value) (l : List UInt8) (s : ByteArray) (w : World) (h : BOwn base w v l) (hB : base ≤ w.heap.size) (hl : l.length + 2 * s.size ≤ 700000000) :
    Calls Tryd.prog 37 #[v, .string s] w fun e w' => BPost base w (l ++ Ch.putN s.data.toList) e w' := by
  have HC0 := fun W => Tryd.strings_CutSuffix s ⟨#[13]⟩ W (by omega)
  rw [show (⟨#[13]⟩ : ByteArray).data.toList = [13] from rfl, suf13] at HC0
  unfold Ch.putN
  by_cases h0 : Ch.ends s.data.toList = true
  · rw [if_pos h0]
    rw [trim13 h0, show (s.data.toList.getLast? == some 13) = true from h0] at HC0
    have HC : Hid (∀ W, Calls Tryd.prog 53 #[.string s, .string ⟨#[13]⟩] W fun e w' => e = .returned (.tuple #[.string ⟨s.data.toList.dropLast.toArray⟩, .bool true]) ∧ W = w') := fun W => (HC0 W).mono fun e w' h => ⟨h.1, h.2.symm⟩
    have hdl : (⟨s.data.toList.dropLast.toArray⟩ : ByteArray).size ≤ s.size := by
      show s.data.toList.dropLast.toArray.size ≤ _
      rw [List.size_toArray, List.length_dropLast]
      have : s.data.toList.length = s.size := rfl
      omega
    have HS : Hid (Calls Tryd.prog 38 #[v, .string ⟨s.data.toList.dropLast.toArray⟩] w fun e w' => ∃ v2, e = .returned v2 ∧ Hid (BOwn base w' v2 (l ++ Ch.putT s.data.toList.dropLast) ∧ Below base w w' ∧ Keep w w')) := ptext_any base v l ⟨s.data.toList.dropLast.toArray⟩ w h hB (by omega)
    clear h0 h HC0 hdl
    generalize (⟨s.data.toList.dropLast.toArray⟩ : ByteArray) = X at *
    go_enter Tryd.func37, Tryd.ntmps37
    go_wp2_with (first
      | (go_at_call 53; refine (HC.out _).mono ?_; rintro e w1 ⟨rfl, rfl⟩)
      | (go_at_call 38; refine HS.out.mono ?_; rintro e w2 ⟨v2, rfl, h2⟩))
    exact bodyPost_ret (v := v2) (by simp [results, Tryd.results37, go_sem]) rfl ⟨v2, rfl, h2.out⟩
  · rw [if_neg h0]
    have h0' : (s.data.toList.getLast? == some 13) = false := by simpa [Ch.ends] using h0
    rw [h0'] at HC0
    generalize Lib.trimSuffix s.data.toList [13] = T at *
    have HC : Hid (∀ W, Calls Tryd.prog 53 #[.string s, .string ⟨#[13]⟩] W fun e w' => e = .returned (.tuple #[.string ⟨T.toArray⟩, .bool false]) ∧ W = w') := fun W => (HC0 W).mono fun e w' h => ⟨h.1, h.2.symm⟩
    have hpl : (l ++ Ch.putS s.data.toList).length ≤ 700000000 := by
      have h1 := Ch.putS_len s.data.toList
      have h2 : s.data.toList.length = s.size := rfl
      rw [List.length_append]; omega
    have HS : Hid (Calls Tryd.prog 54 #[v, .string s] w fun e w' => ∃ v2 v3 w3, e = .returned v2 ∧ Hid ((Builtin.append_ #[45, 9] 45 #[v2, .string ⟨#[92, 99]⟩]).run Tryd.prog w' = .ok v3 w3) ∧ Hid (BPost base w (l ++ (Ch.putS s.data.toList ++ [92, 99])) (.returned v3) w3)) := (psigns_any base v l s w h hB (by omega)).mono fun e w' ⟨v2, h1, h2, h3, h4⟩ => by
      obtain ⟨v3, w3, hap, hO3, hb3, hk3⟩ := h2.adds ⟨#[92, 99]⟩ (Nat.le_trans hB h3.size) (by show _ + 2 ≤ _; omega)
      exact ⟨v2, v3, w3, h1, hap, v3, rfl, by rw [← List.append_assoc]; exact hO3, h3.trans hb3, h4.trans hk3⟩
    clear h0 h HC0 hpl h0'
    generalize (⟨T.toArray⟩ : ByteArray) = X at *
    go_enter Tryd.func37, Tryd.ntmps37
    go_wp2_with (first
      | (go_at_call 53; refine (HC.out _).mono ?_; rintro e w1 ⟨rfl, rfl⟩)
      | (go_at_call 54; refine HS.out.mono ?_; rintro e w2 ⟨v2, v3, w3, rfl, hap, hpost⟩)
      | (at_builtin; refine wpList_append_run2K rfl (.tmp 18) (.const (.string ⟨#[92, 99]⟩)) 45 9 rfl _ _ rfl rfl _ _ hap.out ?_))
    exact bodyPost_ret (v := v3) (by simp [results, Tryd.results37, go_sem]) rfl hpost.out
end Go.Proofs.YteepfifglafjmaaDoor
