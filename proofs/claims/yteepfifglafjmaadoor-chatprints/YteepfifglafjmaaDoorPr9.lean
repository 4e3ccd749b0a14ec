/-
  Layer 8: the document's 'written' of what is sent.
-/
import Derived.Test.YteepfifglafjmaaDoorPr8
namespace Go.Proofs.YteepfifglafjmaaDoor
open Go.RowKit

theorem Ch.ends_at {s : ByteArray} {m : Nat} (hm : s.size = m + 1) : Ch.ends s.data.toList = (((s[m]'(by omega)).toNat : Int) == 13) := by
  unfold Ch.ends
  have hl : s.data.toList.length = m + 1 := hm
  rw [List.getLast?_eq_getElem?, hl, Nat.add_sub_cancel, List.getElem?_eq_getElem (by omega)]
  have e : s.data.toList[m]'(by omega) = s[m]'(by omega) := rfl
  rw [e, Bool.eq_iff_iff, beq_iff_eq, beq_iff_eq, Option.some.injEq]
  constructor
  · intro h; rw [h]; rfl
  · intro h; exact UInt8.toNat_inj.1 (by show (s[m]'(by omega)).toNat = 13; omega)

set_option maxHeartbeats 8000000 in
set_option maxRecDepth 100000 in
theorem rwritten_e (s : ByteArray) (m : Nat) (w : World) (hs : s.size ≤ 1000000) (hm : s.size = m + 1) (he : Ch.ends s.data.toList = true) :
    Calls Tryd.prog 22 #[.string s, .bool true] w fun e w' => e = .returned (.tuple #[.string ⟨(Ch.wr8 true s.data.toList).1.toArray⟩, .bool (Ch.wr8 true s.data.toList).2]) ∧ Below w.heap.size w w' := by
  have hme := Ch.ends_at hm
  rw [he] at hme
  have hmi : m < s.size := by omega
  have hT0 : (s.extract 0 m).data.toList = s.data.toList.dropLast := by
    rw [ByteArray.data_extract, Array.toList_extract, List.extract_eq_take_drop, List.dropLast_eq_take]
    have hl : s.data.toList.length = m + 1 := hm
    rw [hl]; simp
  have hsp : s.data.toList = s.data.toList.dropLast ++ [13] := by
    unfold Ch.ends at he
    have := eq_of_beq he
    obtain ⟨ys, hy⟩ := List.getLast?_eq_some_iff.1 this
    rw [hy]; simp
  obtain ⟨T, hT⟩ : ∃ T, s.extract 0 m = T := ⟨_, rfl⟩
  rw [hT] at hT0
  obtain ⟨N, hN⟩ : ∃ N, N = T.size := ⟨_, rfl⟩
  have hTs : T.size = m := by
    have h1 : T.data.toList.length = T.size := rfl
    have h2 : s.data.toList.length = s.size := rfl
    rw [← h1, hT0, List.length_dropLast, h2]; omega
  have hsd : s.data.toList.all Ch.said = T.data.toList.all Ch.said := by
    rw [hT0]
    conv => lhs; rw [hsp]
    rw [List.all_append]
    have : Ch.said 13 = true := by decide
    simp [this]
  have hR : Hid (T.data.toList.all Ch.said = false → Ch.wr8 true s.data.toList = ([], false)) := fun h => by unfold Ch.wr8; rw [hsd, if_neg (by rw [h]; decide)]
  have hG : Hid (T.data.toList.all Ch.said = true → (T.data.toList = [] → Ch.wr8 true s.data.toList = ([34, 34], true)) ∧ (¬ T.data.toList = [] → Ch.wr8 true s.data.toList = (Ch.putS T.data.toList, true))) := fun h => by
    unfold Ch.wr8 Ch.putN Ch.putT
    rw [hsd, if_pos h, if_pos rfl, if_pos he, ← hT0]
    exact ⟨fun h0 => by rw [if_pos h0], fun h0 => by rw [if_neg h0]⟩
  replace hN := Rg.hid hN
  have hN1 : N ≤ 1000000 := by rw [hN.out, hTs]; omega
  have q0 : (s.toList == []) = false := by rw [tl_eq, beq_eq_false_iff_ne, hsp]; simp
  have q1 : (s.toList != []) = true := by rw [bne, q0]; rfl
  have y0 : IntKind.i64.wrap ((s.size : Int) - 1) = (m : Int) := by rw [IntKind.wrap_i64]; omega
  have y1 : wrap64 ((s.size : Int) - 1) = (m : Int) := by unfold wrap64; omega
  have y2 : (0 : Int) ≤ (m : Int) := by omega
  have y3 : (m : Int) < (s.size : Int) := by omega
  have y4 : (m : Int) ≤ (s.size : Int) := by omega
  have y5 : (((s[m]'hmi).toNat : Int) == 13) = true := hme.symm
  generalize Ch.wr8 true s.data.toList = rr at *
  clear hsd hsp hT0 hme he hTs hm
  go_enter Tryd.func22, Tryd.ntmps22
  go_upto_region 8 with fail
  have hNs : (T.size : Int) = (N : Int) := by rw [hN.out]
  replace hT := Rg.hid hT
  go_wp2
  go_loopw [7, 28] (fun vo vi wr => ∃ (i : Nat) (O : ByteArray), i ≤ N ∧ vi = .int .i64 i ∧ vo = .string O ∧ Hid (O.data.toList = Ch.putS (T.data.toList.take i)) ∧ Hid ((T.data.toList.take i).all Ch.said = true) ∧ Hid (Below w.heap.size w wr) ∧ O.size ≤ 2 * i) (fun _ vi _ => N - (intOf vi).toNat)
  case atStart => exact ⟨0, ⟨#[]⟩, Nat.zero_le _, rfl, rfl, rfl, rfl, Below.refl _ _, Nat.le_refl _⟩
  case round =>
    obtain ⟨i, O, hin, rfl, rfl, hO, hall, hbw, hOl⟩ := hrel
    by_cases hlt : i < N
    · have hil : i < T.size := by rw [← hN.out]; exact hlt
      have hil2 : i < T.data.toList.length := hil
      have htk : T.data.toList.take (i + 1) = T.data.toList.take i ++ [T[i]] := List.take_succ_eq_append_getElem hil2
      have hps : Hid (Ch.putS (T.data.toList.take (i + 1)) = Ch.putS (T.data.toList.take i) ++ Ch.put1 T[i]) := by show _ = _; rw [htk, Ch.putS_snoc]
      have hal2 : Hid (Ch.said T[i] = true → (T.data.toList.take (i + 1)).all Ch.said = true) := fun h => by rw [htk, List.all_append, hall.out]; simp [h]
      have hno : Hid (Ch.said T[i] = false → T.data.toList.all Ch.said = false) := fun h => by rw [List.all_eq_false]; exact ⟨T[i], Oct_mem T i hil, by rw [h]; decide⟩
      have HP := Rg.hid (fun W => (rplain_any T[i] W).mono fun e w' h => (⟨h.1, h.2.symm⟩ : _ ∧ W = w'))
      have hz0 : (0 : Int) ≤ (i : Int) := by omega
      have hz1 : (i : Int) < (T.size : Int) := by omega
      have hz2 : (i : Int) < (N : Int) := by omega
      obtain ⟨c, hc⟩ : ∃ c, T[i] = c := ⟨_, rfl⟩
      have hcn : (T[i].toNat : Int) = (c.toNat : Int) := by rw [hc]
      rw [hc] at hps hal2 hno HP
      replace hc := Rg.hid hc
      have hcl := Ch.class8 c
      clear htk
      rcases hcl with ⟨h0, h1, h2⟩ | ⟨h0, h1, h2⟩ | ⟨y, h0, h1, h2, h3⟩
      · -- as it is
        rw [h0] at HP
        have hcv := conv_bytes (W := wr.alloc (.cells #[.int .u8 (c.toNat : Int)] 5)) (b := wr.heap.size) (o := 0) (cap := 1) (l := [c]) (fun t u ht => by
          have e : t = 0 := by have := (List.getElem?_eq_some_iff.1 ht).1; simpa [byte_flat] using this
          subst e
          rw [← (Option.some.inj ht)]
          exact Rg.cell_new rfl rfl)
        rw [List.length_singleton] at hcv
        have hO2 : Hid ((O ++ (⟨[c].toArray⟩ : ByteArray)).data.toList = Ch.putS (T.data.toList.take (i + 1))) := by show _ = _; rw [hps.out, ← hO.out, h2]; simp
        have ha2 := Rg.hid (hal2.out h1)
        have hb2 := Rg.hid (Rg.chain hbw.out (Rg.al1 wr (.cells #[.int .u8 (c.toNat : Int)] 5)))
        have hsz2 : (O ++ (⟨[c].toArray⟩ : ByteArray)).size ≤ 2 * (i + 1) := by rw [ByteArray.size_append]; show O.size + 1 ≤ _; omega
        have hsz3 : ¬ 9223372036854775807 < O.size + 1 := by omega
        have hcs : (⟨[c].toArray⟩ : ByteArray).size = 1 := rfl
        generalize (⟨[c].toArray⟩ : ByteArray) = X at *
        clear hps hal2 hno hO hall hbw h0 h1 h2
        go_wp2_with (go_at_call 39; refine (HP.out _).mono ?_; rintro e w' ⟨rfl, rfl⟩)
        go_roundw
        case rel => first | exact ⟨i + 1, O ++ X, by omega, by go_num, rfl, hO2, ha2, hb2, hsz2⟩ | ((repeat apply Exists.intro); exact ⟨⟨i + 1, O ++ X, by omega, by go_num, rfl, hO2, ha2, hb2, hsz2⟩, rfl⟩)
        case measure => simp [intOf]; omega
      · -- none
        rw [h0] at HP
        have hbad := Rg.hid (hno.out h1)
        have e13 := Ch.ne8 (c := c) (h2 13 (by simp))
        have e10 := Ch.ne8 (c := c) (h2 10 (by simp))
        have e32 := Ch.ne8 (c := c) (h2 32 (by simp))
        have e45 := Ch.ne8 (c := c) (h2 45 (by simp))
        have e34 := Ch.ne8 (c := c) (h2 34 (by simp))
        have e92 := Ch.ne8 (c := c) (h2 92 (by simp))
        simp only [UInt8.toNat_ofNat] at e13 e10 e32 e45 e34 e92
        clear hps hal2 hno hO hall h0 h1 h2
        go_wp2_with (go_at_call 39; refine (HP.out _).mono ?_; rintro e w' ⟨rfl, rfl⟩)
        go_ret2
        exact ⟨by rw [hR.out hbad.out]; rfl, hbw.out⟩
      · -- a sign
        rw [h0] at HP
        have ha2 := Rg.hid (hal2.out h1)
        have hO2 : Hid (∀ Z : ByteArray, Z.data.toList = [92, y] → (O ++ Z).data.toList = Ch.putS (T.data.toList.take (i + 1)) ∧ (O ++ Z).size ≤ 2 * (i + 1)) := fun Z hZ => by
          have hzl : Z.size = 2 := by have : Z.data.toList.length = 2 := by rw [hZ]; rfl
                                      exact this
          exact ⟨by rw [hps.out, ← hO.out, h2, ByteArray.data_append]; simp [hZ], by rw [ByteArray.size_append]; omega⟩
        have hsz3 : ¬ 9223372036854775807 < O.size + 2 := by omega
        clear hps hal2 hno hO hall h0 h1 h2
        rcases h3 with ⟨rfl, rfl⟩ | ⟨rfl, rfl⟩ | ⟨rfl, rfl⟩ | ⟨rfl, rfl⟩ | ⟨rfl, rfl⟩ | ⟨rfl, rfl⟩
        · obtain ⟨o1, o2⟩ := hO2.out ⟨#[92, 114]⟩ rfl
          replace o1 := Rg.hid o1
          have hcn2 : (T[i].toNat : Int) = 13 := hcn
          clear hO2 hcn
          go_wp2_with (go_at_call 39; refine (HP.out _).mono ?_; rintro e w' ⟨rfl, rfl⟩)
          go_roundw
          case rel => first | exact ⟨i + 1, O ++ ⟨#[92, 114]⟩, by omega, by go_num, rfl, o1, ha2, hbw, o2⟩ | ((repeat apply Exists.intro); exact ⟨⟨i + 1, O ++ ⟨#[92, 114]⟩, by omega, by go_num, rfl, o1, ha2, hbw, o2⟩, rfl⟩)
          case measure => simp [intOf]; omega
        · obtain ⟨o1, o2⟩ := hO2.out ⟨#[92, 110]⟩ rfl
          replace o1 := Rg.hid o1
          have hcn2 : (T[i].toNat : Int) = 10 := hcn
          clear hO2 hcn
          go_wp2_with (go_at_call 39; refine (HP.out _).mono ?_; rintro e w' ⟨rfl, rfl⟩)
          go_roundw
          case rel => first | exact ⟨i + 1, O ++ ⟨#[92, 110]⟩, by omega, by go_num, rfl, o1, ha2, hbw, o2⟩ | ((repeat apply Exists.intro); exact ⟨⟨i + 1, O ++ ⟨#[92, 110]⟩, by omega, by go_num, rfl, o1, ha2, hbw, o2⟩, rfl⟩)
          case measure => simp [intOf]; omega
        · obtain ⟨o1, o2⟩ := hO2.out ⟨#[92, 115]⟩ rfl
          replace o1 := Rg.hid o1
          have hcn2 : (T[i].toNat : Int) = 32 := hcn
          clear hO2 hcn
          go_wp2_with (go_at_call 39; refine (HP.out _).mono ?_; rintro e w' ⟨rfl, rfl⟩)
          go_roundw
          case rel => first | exact ⟨i + 1, O ++ ⟨#[92, 115]⟩, by omega, by go_num, rfl, o1, ha2, hbw, o2⟩ | ((repeat apply Exists.intro); exact ⟨⟨i + 1, O ++ ⟨#[92, 115]⟩, by omega, by go_num, rfl, o1, ha2, hbw, o2⟩, rfl⟩)
          case measure => simp [intOf]; omega
        · obtain ⟨o1, o2⟩ := hO2.out ⟨#[92, 109]⟩ rfl
          replace o1 := Rg.hid o1
          have hcn2 : (T[i].toNat : Int) = 45 := hcn
          clear hO2 hcn
          go_wp2_with (go_at_call 39; refine (HP.out _).mono ?_; rintro e w' ⟨rfl, rfl⟩)
          go_roundw
          case rel => first | exact ⟨i + 1, O ++ ⟨#[92, 109]⟩, by omega, by go_num, rfl, o1, ha2, hbw, o2⟩ | ((repeat apply Exists.intro); exact ⟨⟨i + 1, O ++ ⟨#[92, 109]⟩, by omega, by go_num, rfl, o1, ha2, hbw, o2⟩, rfl⟩)
          case measure => simp [intOf]; omega
        · obtain ⟨o1, o2⟩ := hO2.out ⟨#[92, 113]⟩ rfl
          replace o1 := Rg.hid o1
          have hcn2 : (T[i].toNat : Int) = 34 := hcn
          clear hO2 hcn
          go_wp2_with (go_at_call 39; refine (HP.out _).mono ?_; rintro e w' ⟨rfl, rfl⟩)
          go_roundw
          case rel => first | exact ⟨i + 1, O ++ ⟨#[92, 113]⟩, by omega, by go_num, rfl, o1, ha2, hbw, o2⟩ | ((repeat apply Exists.intro); exact ⟨⟨i + 1, O ++ ⟨#[92, 113]⟩, by omega, by go_num, rfl, o1, ha2, hbw, o2⟩, rfl⟩)
          case measure => simp [intOf]; omega
        · obtain ⟨o1, o2⟩ := hO2.out ⟨#[92, 92]⟩ rfl
          replace o1 := Rg.hid o1
          have hcn2 : (T[i].toNat : Int) = 92 := hcn
          clear hO2 hcn
          go_wp2_with (go_at_call 39; refine (HP.out _).mono ?_; rintro e w' ⟨rfl, rfl⟩)
          go_roundw
          case rel => first | exact ⟨i + 1, O ++ ⟨#[92, 92]⟩, by omega, by go_num, rfl, o1, ha2, hbw, o2⟩ | ((repeat apply Exists.intro); exact ⟨⟨i + 1, O ++ ⟨#[92, 92]⟩, by omega, by go_num, rfl, o1, ha2, hbw, o2⟩, rfl⟩)
          case measure => simp [intOf]; omega
    · have hO2 := hO.out
      have ha2 := hall.out
      rw [List.take_of_length_le (by show T.size ≤ i; rw [← hN.out]; omega)] at hO2 ha2
      have hG2 := hG.out ha2
      have hge1 : ¬ ((i : Int) < (T.size : Int)) := by rw [← hN.out]; omega
      have hge2 : ¬ i < T.size := by rw [← hN.out]; omega
      have hsz3 : ¬ 9223372036854775807 < O.size + 2 := by omega
      have hap : O ++ (⟨#[]⟩ : ByteArray) = O := by apply ba_ext; simp
      by_cases h0 : T.data.toList = []
      · have q2 : (O.toList == []) = true := by rw [tl_eq, hO2, h0]; rfl
        have q1 : ((O ++ (⟨#[]⟩ : ByteArray)).toList == []) = true := by rw [hap]; exact q2
        have hG3 := Rg.hid (hG2.1 h0)
        clear hO hall hO2 ha2 hG2 h0 hap
        go_wp2
        go_ret2
        exact ⟨by rw [hG3.out]; rfl, hbw.out⟩
      · have q2 : (O.toList == []) = false := by rw [tl_eq, hO2]; exact beq_eq_false_iff_ne.2 (fun e => h0 (Ch.putS_nil e))
        have q1 : ((O ++ (⟨#[]⟩ : ByteArray)).toList == []) = false := by rw [hap]; exact q2
        have hG3 := hG2.2 h0
        rw [← hO2] at hG3
        replace hG3 := Rg.hid hG3
        replace hap := Rg.hid hap
        clear hO hall hO2 ha2 hG2 h0
        go_wp2
        go_ret2
        exact ⟨by rw [hG3.out]; first | rfl | exact congrArg (fun X => Ending.returned (.tuple #[.string X, .bool true])) hap.out, hbw.out⟩

set_option maxHeartbeats 8000000 in
set_option maxRecDepth 100000 in
theorem rwritten_0 (s : ByteArray) (w : World) (h0s : s.data.toList = []) :
    Calls Tryd.prog 22 #[.string s, .bool true] w fun e w' => e = .returned (.tuple #[.string ⟨(Ch.wr8 true s.data.toList).1.toArray⟩, .bool (Ch.wr8 true s.data.toList).2]) ∧ Below w.heap.size w w' := by
  have hr : Hid (Ch.wr8 true s.data.toList = ([92, 99], true)) := by show _ = _; rw [h0s]; decide
  have q0 : (s.toList == []) = true := by rw [tl_eq, h0s]; rfl
  have q1 : (s.toList != []) = false := by rw [bne, q0]; rfl
  have hsz : (s.size : Int) = 0 := by have : s.data.toList.length = 0 := by rw [h0s]; rfl
                                      have h2 : s.data.toList.length = s.size := rfl
                                      omega
  have q2 : (((⟨#[]⟩ : ByteArray) ++ ⟨#[92, 99]⟩).toList == []) = false := by rw [tl_eq]; rfl
  have q3 : ((⟨#[92, 99]⟩ : ByteArray).toList == []) = false := by rw [tl_eq]; rfl
  have hap : (⟨#[]⟩ : ByteArray) ++ ⟨#[92, 99]⟩ = ⟨#[92, 99]⟩ := by apply ba_ext; rfl
  generalize Ch.wr8 true s.data.toList = rr at *
  clear h0s
  go_enter Tryd.func22, Tryd.ntmps22
  go_upto_region 8 with fail
  go_wp2
  go_loopw [7, 28] (fun vo vi wr => vi = .int .i64 0 ∧ vo = .string ⟨#[]⟩ ∧ w = wr) (fun _ _ _ => 0)
  case atStart => exact ⟨rfl, rfl, rfl⟩
  case round =>
    obtain ⟨rfl, rfl, rfl⟩ := hrel
    go_wp2
    go_ret2
    exact ⟨by rw [hr.out]; rfl, Below.refl _ _⟩

set_option maxHeartbeats 8000000 in
set_option maxRecDepth 100000 in
theorem rwritten_b (s : ByteArray) (m : Nat) (w : World) (hs : s.size ≤ 1000000) (hm : s.size = m + 1) (he : Ch.ends s.data.toList = false) :
    Calls Tryd.prog 22 #[.string s, .bool true] w fun e w' => e = .returned (.tuple #[.string ⟨(Ch.wr8 true s.data.toList).1.toArray⟩, .bool (Ch.wr8 true s.data.toList).2]) ∧ Below w.heap.size w w' := by
  have hme := Ch.ends_at hm
  rw [he] at hme
  have hmi : m < s.size := by omega
  obtain ⟨N, hN⟩ : ∃ N, N = s.size := ⟨_, rfl⟩
  have hR : Hid (s.data.toList.all Ch.said = false → Ch.wr8 true s.data.toList = ([], false)) := fun h => by unfold Ch.wr8; rw [if_neg (by rw [h]; decide)]
  have hG : Hid (s.data.toList.all Ch.said = true → Ch.wr8 true s.data.toList = (Ch.putS s.data.toList ++ [92, 99], true)) := fun h => by
    unfold Ch.wr8 Ch.putN
    rw [if_pos h, if_pos rfl, if_neg (by rw [he]; decide)]
  have hN1 : N ≤ 1000000 := by rw [hN]; exact hs
  have q0 : (s.toList == []) = false := by rw [tl_eq, beq_eq_false_iff_ne]; intro e; have h2 : s.data.toList.length = s.size := rfl; rw [e] at h2; simp at h2; omega
  have q1 : (s.toList != []) = true := by rw [bne, q0]; rfl
  have y0 : IntKind.i64.wrap ((s.size : Int) - 1) = (m : Int) := by rw [IntKind.wrap_i64]; omega
  have y1 : wrap64 ((s.size : Int) - 1) = (m : Int) := by unfold wrap64; omega
  have y2 : (0 : Int) ≤ (m : Int) := by omega
  have y3 : (m : Int) < (s.size : Int) := by omega
  have y5 : (((s[m]'hmi).toNat : Int) == 13) = false := hme.symm
  replace hN := Rg.hid hN
  generalize Ch.wr8 true s.data.toList = rr at *
  clear hme he hm
  go_enter Tryd.func22, Tryd.ntmps22
  go_upto_region 8 with fail
  go_wp2
  go_loopw [7, 28] (fun vo vi wr => ∃ (i : Nat) (O : ByteArray), i ≤ N ∧ vi = .int .i64 i ∧ vo = .string O ∧ Hid (O.data.toList = Ch.putS (s.data.toList.take i)) ∧ Hid ((s.data.toList.take i).all Ch.said = true) ∧ Hid (Below w.heap.size w wr) ∧ O.size ≤ 2 * i) (fun _ vi _ => N - (intOf vi).toNat)
  case atStart => exact ⟨0, ⟨#[]⟩, Nat.zero_le _, rfl, rfl, rfl, rfl, Below.refl _ _, Nat.le_refl _⟩
  case round =>
    obtain ⟨i, O, hin, rfl, rfl, hO, hall, hbw, hOl⟩ := hrel
    by_cases hlt : i < N
    · have hil : i < s.size := by rw [← hN.out]; exact hlt
      have hil2 : i < s.data.toList.length := hil
      have htk : s.data.toList.take (i + 1) = s.data.toList.take i ++ [s[i]] := List.take_succ_eq_append_getElem hil2
      have hps : Hid (Ch.putS (s.data.toList.take (i + 1)) = Ch.putS (s.data.toList.take i) ++ Ch.put1 s[i]) := by show _ = _; rw [htk, Ch.putS_snoc]
      have hal2 : Hid (Ch.said s[i] = true → (s.data.toList.take (i + 1)).all Ch.said = true) := fun h => by rw [htk, List.all_append, hall.out]; simp [h]
      have hno : Hid (Ch.said s[i] = false → s.data.toList.all Ch.said = false) := fun h => by rw [List.all_eq_false]; exact ⟨s[i], Oct_mem s i hil, by rw [h]; decide⟩
      have HP := Rg.hid (fun W => (rplain_any s[i] W).mono fun e w' h => (⟨h.1, h.2.symm⟩ : _ ∧ W = w'))
      have hz0 : (0 : Int) ≤ (i : Int) := by omega
      have hz1 : (i : Int) < (s.size : Int) := by omega
      have hz2 : (i : Int) < (N : Int) := by omega
      obtain ⟨c, hc⟩ : ∃ c, s[i] = c := ⟨_, rfl⟩
      have hcn : (s[i].toNat : Int) = (c.toNat : Int) := by rw [hc]
      rw [hc] at hps hal2 hno HP
      replace hc := Rg.hid hc
      have hcl := Ch.class8 c
      clear htk
      rcases hcl with ⟨h0, h1, h2⟩ | ⟨h0, h1, h2⟩ | ⟨y, h0, h1, h2, h3⟩
      · -- as it is
        rw [h0] at HP
        have hcv := conv_bytes (W := wr.alloc (.cells #[.int .u8 (c.toNat : Int)] 5)) (b := wr.heap.size) (o := 0) (cap := 1) (l := [c]) (fun t u ht => by
          have e : t = 0 := by have := (List.getElem?_eq_some_iff.1 ht).1; simpa [byte_flat] using this
          subst e
          rw [← (Option.some.inj ht)]
          exact Rg.cell_new rfl rfl)
        rw [List.length_singleton] at hcv
        have hO2 : Hid ((O ++ (⟨[c].toArray⟩ : ByteArray)).data.toList = Ch.putS (s.data.toList.take (i + 1))) := by show _ = _; rw [hps.out, ← hO.out, h2]; simp
        have ha2 := Rg.hid (hal2.out h1)
        have hb2 := Rg.hid (Rg.chain hbw.out (Rg.al1 wr (.cells #[.int .u8 (c.toNat : Int)] 5)))
        have hsz2 : (O ++ (⟨[c].toArray⟩ : ByteArray)).size ≤ 2 * (i + 1) := by rw [ByteArray.size_append]; show O.size + 1 ≤ _; omega
        have hsz3 : ¬ 9223372036854775807 < O.size + 1 := by omega
        have hcs : (⟨[c].toArray⟩ : ByteArray).size = 1 := rfl
        generalize (⟨[c].toArray⟩ : ByteArray) = X at *
        clear hps hal2 hno hO hall hbw h0 h1 h2
        go_wp2_with (go_at_call 39; refine (HP.out _).mono ?_; rintro e w' ⟨rfl, rfl⟩)
        go_roundw
        case rel => first | exact ⟨i + 1, O ++ X, by omega, by go_num, rfl, hO2, ha2, hb2, hsz2⟩ | ((repeat apply Exists.intro); exact ⟨⟨i + 1, O ++ X, by omega, by go_num, rfl, hO2, ha2, hb2, hsz2⟩, rfl⟩)
        case measure => simp [intOf]; omega
      · -- none
        rw [h0] at HP
        have hbad := Rg.hid (hno.out h1)
        have e13 := Ch.ne8 (c := c) (h2 13 (by simp))
        have e10 := Ch.ne8 (c := c) (h2 10 (by simp))
        have e32 := Ch.ne8 (c := c) (h2 32 (by simp))
        have e45 := Ch.ne8 (c := c) (h2 45 (by simp))
        have e34 := Ch.ne8 (c := c) (h2 34 (by simp))
        have e92 := Ch.ne8 (c := c) (h2 92 (by simp))
        simp only [UInt8.toNat_ofNat] at e13 e10 e32 e45 e34 e92
        clear hps hal2 hno hO hall h0 h1 h2
        go_wp2_with (go_at_call 39; refine (HP.out _).mono ?_; rintro e w' ⟨rfl, rfl⟩)
        go_ret2
        exact ⟨by rw [hR.out hbad.out]; rfl, hbw.out⟩
      · -- a sign
        rw [h0] at HP
        have ha2 := Rg.hid (hal2.out h1)
        have hO2 : Hid (∀ Z : ByteArray, Z.data.toList = [92, y] → (O ++ Z).data.toList = Ch.putS (s.data.toList.take (i + 1)) ∧ (O ++ Z).size ≤ 2 * (i + 1)) := fun Z hZ => by
          have hzl : Z.size = 2 := by have : Z.data.toList.length = 2 := by rw [hZ]; rfl
                                      exact this
          exact ⟨by rw [hps.out, ← hO.out, h2, ByteArray.data_append]; simp [hZ], by rw [ByteArray.size_append]; omega⟩
        have hsz3 : ¬ 9223372036854775807 < O.size + 2 := by omega
        clear hps hal2 hno hO hall h0 h1 h2
        rcases h3 with ⟨rfl, rfl⟩ | ⟨rfl, rfl⟩ | ⟨rfl, rfl⟩ | ⟨rfl, rfl⟩ | ⟨rfl, rfl⟩ | ⟨rfl, rfl⟩
        · obtain ⟨o1, o2⟩ := hO2.out ⟨#[92, 114]⟩ rfl
          replace o1 := Rg.hid o1
          have hcn2 : (s[i].toNat : Int) = 13 := hcn
          clear hO2 hcn
          go_wp2_with (go_at_call 39; refine (HP.out _).mono ?_; rintro e w' ⟨rfl, rfl⟩)
          go_roundw
          case rel => first | exact ⟨i + 1, O ++ ⟨#[92, 114]⟩, by omega, by go_num, rfl, o1, ha2, hbw, o2⟩ | ((repeat apply Exists.intro); exact ⟨⟨i + 1, O ++ ⟨#[92, 114]⟩, by omega, by go_num, rfl, o1, ha2, hbw, o2⟩, rfl⟩)
          case measure => simp [intOf]; omega
        · obtain ⟨o1, o2⟩ := hO2.out ⟨#[92, 110]⟩ rfl
          replace o1 := Rg.hid o1
          have hcn2 : (s[i].toNat : Int) = 10 := hcn
          clear hO2 hcn
          go_wp2_with (go_at_call 39; refine (HP.out _).mono ?_; rintro e w' ⟨rfl, rfl⟩)
          go_roundw
          case rel => first | exact ⟨i + 1, O ++ ⟨#[92, 110]⟩, by omega, by go_num, rfl, o1, ha2, hbw, o2⟩ | ((repeat apply Exists.intro); exact ⟨⟨i + 1, O ++ ⟨#[92, 110]⟩, by omega, by go_num, rfl, o1, ha2, hbw, o2⟩, rfl⟩)
          case measure => simp [intOf]; omega
        · obtain ⟨o1, o2⟩ := hO2.out ⟨#[92, 115]⟩ rfl
          replace o1 := Rg.hid o1
          have hcn2 : (s[i].toNat : Int) = 32 := hcn
          clear hO2 hcn
          go_wp2_with (go_at_call 39; refine (HP.out _).mono ?_; rintro e w' ⟨rfl, rfl⟩)
          go_roundw
          case rel => first | exact ⟨i + 1, O ++ ⟨#[92, 115]⟩, by omega, by go_num, rfl, o1, ha2, hbw, o2⟩ | ((repeat apply Exists.intro); exact ⟨⟨i + 1, O ++ ⟨#[92, 115]⟩, by omega, by go_num, rfl, o1, ha2, hbw, o2⟩, rfl⟩)
          case measure => simp [intOf]; omega
        · obtain ⟨o1, o2⟩ := hO2.out ⟨#[92, 109]⟩ rfl
          replace o1 := Rg.hid o1
          have hcn2 : (s[i].toNat : Int) = 45 := hcn
          clear hO2 hcn
          go_wp2_with (go_at_call 39; refine (HP.out _).mono ?_; rintro e w' ⟨rfl, rfl⟩)
          go_roundw
          case rel => first | exact ⟨i + 1, O ++ ⟨#[92, 109]⟩, by omega, by go_num, rfl, o1, ha2, hbw, o2⟩ | ((repeat apply Exists.intro); exact ⟨⟨i + 1, O ++ ⟨#[92, 109]⟩, by omega, by go_num, rfl, o1, ha2, hbw, o2⟩, rfl⟩)
          case measure => simp [intOf]; omega
        · obtain ⟨o1, o2⟩ := hO2.out ⟨#[92, 113]⟩ rfl
          replace o1 := Rg.hid o1
          have hcn2 : (s[i].toNat : Int) = 34 := hcn
          clear hO2 hcn
          go_wp2_with (go_at_call 39; refine (HP.out _).mono ?_; rintro e w' ⟨rfl, rfl⟩)
          go_roundw
          case rel => first | exact ⟨i + 1, O ++ ⟨#[92, 113]⟩, by omega, by go_num, rfl, o1, ha2, hbw, o2⟩ | ((repeat apply Exists.intro); exact ⟨⟨i + 1, O ++ ⟨#[92, 113]⟩, by omega, by go_num, rfl, o1, ha2, hbw, o2⟩, rfl⟩)
          case measure => simp [intOf]; omega
        · obtain ⟨o1, o2⟩ := hO2.out ⟨#[92, 92]⟩ rfl
          replace o1 := Rg.hid o1
          have hcn2 : (s[i].toNat : Int) = 92 := hcn
          clear hO2 hcn
          go_wp2_with (go_at_call 39; refine (HP.out _).mono ?_; rintro e w' ⟨rfl, rfl⟩)
          go_roundw
          case rel => first | exact ⟨i + 1, O ++ ⟨#[92, 92]⟩, by omega, by go_num, rfl, o1, ha2, hbw, o2⟩ | ((repeat apply Exists.intro); exact ⟨⟨i + 1, O ++ ⟨#[92, 92]⟩, by omega, by go_num, rfl, o1, ha2, hbw, o2⟩, rfl⟩)
          case measure => simp [intOf]; omega
    · have hO2 := hO.out
      have ha2 := hall.out
      rw [List.take_of_length_le (by show s.size ≤ i; rw [← hN.out]; omega)] at hO2 ha2
      have hG2 := hG.out ha2
      have hge1 : ¬ ((i : Int) < (s.size : Int)) := by rw [← hN.out]; omega
      have hge2 : ¬ i < s.size := by rw [← hN.out]; omega
      have hsz3 : ¬ 9223372036854775807 < O.size + 2 := by omega
      have q1 : ((O ++ (⟨#[92, 99]⟩ : ByteArray)).toList == []) = false := by rw [tl_eq, ByteArray.data_append]; exact beq_eq_false_iff_ne.2 (by simp)
      have hap : Hid (O ++ (⟨#[92, 99]⟩ : ByteArray) = ⟨(Ch.putS s.data.toList ++ [92, 99]).toArray⟩) := by show _ = _; apply ba_ext; rw [ByteArray.data_append]; simp [hO2]
      replace hG2 := Rg.hid hG2
      clear hO hall hO2 ha2
      go_wp2
      go_ret2
      exact ⟨by rw [hG2.out]; exact congrArg (fun X => Ending.returned (.tuple #[.string X, .bool true])) hap.out, hbw.out⟩

/-- the document's 'written' -/
theorem rwritten_any (send : Bool) (s : ByteArray) (w : World) (hs : s.size ≤ 1000000) :
    Calls Tryd.prog 22 #[.string s, .bool send] w fun e w' => e = .returned (.tuple #[.string ⟨(Ch.wr8 send s.data.toList).1.toArray⟩, .bool (Ch.wr8 send s.data.toList).2]) ∧ Below w.heap.size w w' := by
  cases send
  · exact rwritten_f s w hs
  · by_cases h0 : s.data.toList = []
    · exact rwritten_0 s w h0
    · have h2 : s.data.toList.length = s.size := rfl
      have h3 : 0 < s.data.toList.length := List.length_pos_iff.2 h0
      have hm : s.size = (s.size - 1) + 1 := by omega
      cases he : Ch.ends s.data.toList
      · exact rwritten_b s _ w hs hm he
      · exact rwritten_e s _ w hs hm he
end Go.Proofs.YteepfifglafjmaaDoor
