/-
  Layer 8: the document's 'written'.
-/
import Derived.Test.YteepfifglafjmaaDoorPr7
import Derived.Test.YteepfifglafjmaaDoorCh17
namespace Go.Proofs.YteepfifglafjmaaDoor
open Go.RowKit

theorem Oct_mem (s : ByteArray) (k : Nat) (h : k < s.size) : s[k] ∈ s.data.toList := by
  have e : s[k] = s.data.toList[k]'(by simpa using h) := rfl
  rw [e]; exact List.getElem_mem _
namespace Ch
/-- a text as a word -/
def wr8 (send : Bool) (l : List UInt8) : List UInt8 × Bool := if l.all said = true then ((if send = true then putN l else putT l), true) else ([], false)
theorem class_nat : ∀ n, n < 256 → (plain (UInt8.ofNat n) = true ∧ said (UInt8.ofNat n) = true ∧ put1 (UInt8.ofNat n) = [UInt8.ofNat n]) ∨
    (plain (UInt8.ofNat n) = false ∧ said (UInt8.ofNat n) = false ∧ ∀ b ∈ [(13 : UInt8), 10, 32, 45, 34, 92], UInt8.ofNat n ≠ b) ∨
    (plain (UInt8.ofNat n) = false ∧ said (UInt8.ofNat n) = true ∧ ((UInt8.ofNat n = 13 ∧ put1 (UInt8.ofNat n) = [92, 114]) ∨ (UInt8.ofNat n = 10 ∧ put1 (UInt8.ofNat n) = [92, 110]) ∨ (UInt8.ofNat n = 32 ∧ put1 (UInt8.ofNat n) = [92, 115]) ∨ (UInt8.ofNat n = 45 ∧ put1 (UInt8.ofNat n) = [92, 109]) ∨ (UInt8.ofNat n = 34 ∧ put1 (UInt8.ofNat n) = [92, 113]) ∨ (UInt8.ofNat n = 92 ∧ put1 (UInt8.ofNat n) = [92, 92]))) := by decide +kernel
theorem class8 (c : UInt8) : (plain c = true ∧ said c = true ∧ put1 c = [c]) ∨ (plain c = false ∧ said c = false ∧ ∀ b ∈ [(13 : UInt8), 10, 32, 45, 34, 92], c ≠ b) ∨
    (∃ y : UInt8, plain c = false ∧ said c = true ∧ put1 c = [92, y] ∧ ((c = 13 ∧ y = 114) ∨ (c = 10 ∧ y = 110) ∨ (c = 32 ∧ y = 115) ∨ (c = 45 ∧ y = 109) ∨ (c = 34 ∧ y = 113) ∨ (c = 92 ∧ y = 92))) := by
  have h := class_nat c.toNat (UInt8.toNat_lt c)
  rw [UInt8.ofNat_toNat] at h
  rcases h with h | h | ⟨h1, h2, h3⟩
  · exact .inl h
  · exact .inr (.inl h)
  · rcases h3 with ⟨e, h3⟩ | ⟨e, h3⟩ | ⟨e, h3⟩ | ⟨e, h3⟩ | ⟨e, h3⟩ | ⟨e, h3⟩
    · exact .inr (.inr ⟨114, h1, h2, h3, .inl ⟨e, rfl⟩⟩)
    · exact .inr (.inr ⟨110, h1, h2, h3, .inr (.inl ⟨e, rfl⟩)⟩)
    · exact .inr (.inr ⟨115, h1, h2, h3, .inr (.inr (.inl ⟨e, rfl⟩))⟩)
    · exact .inr (.inr ⟨109, h1, h2, h3, .inr (.inr (.inr (.inl ⟨e, rfl⟩)))⟩)
    · exact .inr (.inr ⟨113, h1, h2, h3, .inr (.inr (.inr (.inr (.inl ⟨e, rfl⟩))))⟩)
    · exact .inr (.inr ⟨92, h1, h2, h3, .inr (.inr (.inr (.inr (.inr ⟨e, rfl⟩))))⟩)
theorem ne8 {c b : UInt8} (h : c ≠ b) : ((c.toNat : Int) == (b.toNat : Int)) = false := by
  rw [beq_eq_false_iff_ne]; intro e; exact h (UInt8.toNat_inj.1 (by omega))
theorem putS_nil {l : List UInt8} (h : putS l = []) : l = [] := by
  cases l with
  | nil => rfl
  | cons b r =>
    exfalso
    simp only [putS, List.flatMap_cons, List.append_eq_nil_iff] at h
    have := h.1
    unfold put1 at this
    split at this <;> cases this
end Ch

set_option maxHeartbeats 8000000 in
set_option maxRecDepth 100000 in
theorem rwritten_f (s : ByteArray) (w : World) (hs : s.size ≤ 1000000) :
    Calls Tryd.prog 22 #[.string s, .bool false] w fun e w' => e = .returned (.tuple #[.string ⟨(Ch.wr8 false s.data.toList).1.toArray⟩, .bool (Ch.wr8 false s.data.toList).2]) ∧ Below w.heap.size w w' := by
  obtain ⟨N, hN⟩ : ∃ N, N = s.size := ⟨_, rfl⟩
  have hR : Hid (s.data.toList.all Ch.said = false → Ch.wr8 false s.data.toList = ([], false)) := fun h => by unfold Ch.wr8; rw [if_neg (by rw [h]; decide)]
  have hG : Hid (s.data.toList.all Ch.said = true → (s.data.toList = [] → Ch.wr8 false s.data.toList = ([34, 34], true)) ∧ (¬ s.data.toList = [] → Ch.wr8 false s.data.toList = (Ch.putS s.data.toList, true))) := fun h => by
    unfold Ch.wr8 Ch.putT
    rw [if_pos h]
    exact ⟨fun h0 => by rw [if_neg (by decide), if_pos h0], fun h0 => by rw [if_neg (by decide), if_neg h0]⟩
  replace hN := Rg.hid hN
  have hN1 : N ≤ 1000000 := by rw [hN.out]; exact hs
  generalize Ch.wr8 false s.data.toList = rr at *
  go_enter Tryd.func22, Tryd.ntmps22
  go_upto_region 8 with fail
  have hNs : (s.size : Int) = (N : Int) := by rw [hN.out]
  go_wp2
  go_loopw [7, 28] (fun vo vi wr => ∃ (i : Nat) (O : ByteArray), i ≤ N ∧ vi = .int .i64 i ∧ vo = .string O ∧ Hid (O.data.toList = Ch.putS (s.data.toList.take i)) ∧ Hid ((s.data.toList.take i).all Ch.said = true) ∧ Hid (Below w.heap.size w wr) ∧ O.size ≤ 2 * i) (fun _ vi _ => N - (intOf vi).toNat)
  case atStart => exact ⟨0, ⟨#[]⟩, Nat.zero_le _, rfl, rfl, rfl, rfl, Below.refl _ _, Nat.le_refl _⟩
  case round =>
    obtain ⟨i, O, hin, rfl, rfl, hO, hall, hbw, hOl⟩ := hrel
    by_cases hlt : i < N
    · have hil : i < s.size := by rw [← hN.out]; exact hlt
      have hil2 : i < s.data.toList.length := hil
      have htk : s.data.toList.take (i + 1) = s.data.toList.take i ++ [s[i]] := List.take_succ_eq_append_getElem hil2
      have hps : Hid (Ch.putS (s.data.toList.take (i + 1)) = Ch.putS (s.data.toList.take i) ++ Ch.put1 s[i]) := by show _ = _; rw [htk, Ch.putS_snoc]
      have hal2 : Hid (Ch.said s[i] = true → (s.data.toList.take (i + 1)).all Ch.said = true) := fun h => by rw [htk, List.all_append, hall.out]; simp [h]
      have hno : Hid (Ch.said s[i] = false → s.data.toList.all Ch.said = false) := fun h => by rw [List.all_eq_false]; exact ⟨s[i], Oct_mem s i hil, by rw [h]; decide⟩
      have HP := Rg.hid (fun W => (rplain_any s[i] W).mono fun e w' h => (⟨h.1, h.2.symm⟩ : _ ∧ W = w'))
      have hz0 : (0 : Int) ≤ (i : Int) := by omega
      have hz1 : (i : Int) < (s.size : Int) := by omega
      have hz2 : (i : Int) < (N : Int) := by omega
      obtain ⟨c, hc⟩ : ∃ c, s[i] = c := ⟨_, rfl⟩
      have hcn : (s[i].toNat : Int) = (c.toNat : Int) := by rw [hc]
      rw [hc] at hps hal2 hno HP
      replace hc := Rg.hid hc
      have hcl := Ch.class8 c
      clear htk
      rcases hcl with ⟨h0, h1, h2⟩ | ⟨h0, h1, h2⟩ | ⟨y, h0, h1, h2, h3⟩
      · -- as it is
        rw [h0] at HP
        have hcv := conv_bytes (W := wr.alloc (.cells #[.int .u8 (c.toNat : Int)] 5)) (b := wr.heap.size) (o := 0) (cap := 1) (l := [c]) (fun t u ht => by
          have e : t = 0 := by have := (List.getElem?_eq_some_iff.1 ht).1; simpa [byte_flat] using this
          subst e
          rw [← (Option.some.inj ht)]
          exact Rg.cell_new rfl rfl)
        rw [List.length_singleton] at hcv
        have hO2 : Hid ((O ++ (⟨[c].toArray⟩ : ByteArray)).data.toList = Ch.putS (s.data.toList.take (i + 1))) := by show _ = _; rw [hps.out, ← hO.out, h2]; simp
        have ha2 := Rg.hid (hal2.out h1)
        have hb2 := Rg.hid (Rg.chain hbw.out (Rg.al1 wr (.cells #[.int .u8 (c.toNat : Int)] 5)))
        have hsz2 : (O ++ (⟨[c].toArray⟩ : ByteArray)).size ≤ 2 * (i + 1) := by rw [ByteArray.size_append]; show O.size + 1 ≤ _; omega
        have hsz3 : ¬ 9223372036854775807 < O.size + 1 := by omega
        have hcs : (⟨[c].toArray⟩ : ByteArray).size = 1 := rfl
        generalize (⟨[c].toArray⟩ : ByteArray) = X at *
        clear hps hal2 hno hO hall hbw h0 h1 h2
        go_wp2_with (go_at_call 39; refine (HP.out _).mono ?_; rintro e w' ⟨rfl, rfl⟩)
        go_roundw
        case rel => first | exact ⟨i + 1, O ++ X, by omega, by go_num, rfl, hO2, ha2, hb2, hsz2⟩ | ((repeat apply Exists.intro); exact ⟨⟨i + 1, O ++ X, by omega, by go_num, rfl, hO2, ha2, hb2, hsz2⟩, rfl⟩)
        case measure => simp [intOf]; omega
      · -- none
        rw [h0] at HP
        have hbad := Rg.hid (hno.out h1)
        have e13 := Ch.ne8 (c := c) (h2 13 (by simp))
        have e10 := Ch.ne8 (c := c) (h2 10 (by simp))
        have e32 := Ch.ne8 (c := c) (h2 32 (by simp))
        have e45 := Ch.ne8 (c := c) (h2 45 (by simp))
        have e34 := Ch.ne8 (c := c) (h2 34 (by simp))
        have e92 := Ch.ne8 (c := c) (h2 92 (by simp))
        simp only [UInt8.toNat_ofNat] at e13 e10 e32 e45 e34 e92
        clear hps hal2 hno hO hall h0 h1 h2
        go_wp2_with (go_at_call 39; refine (HP.out _).mono ?_; rintro e w' ⟨rfl, rfl⟩)
        go_ret2
        exact ⟨by rw [hR.out hbad.out]; rfl, hbw.out⟩
      · -- a sign
        rw [h0] at HP
        have ha2 := Rg.hid (hal2.out h1)
        have hO2 : Hid (∀ Z : ByteArray, Z.data.toList = [92, y] → (O ++ Z).data.toList = Ch.putS (s.data.toList.take (i + 1)) ∧ (O ++ Z).size ≤ 2 * (i + 1)) := fun Z hZ => by
          have hzl : Z.size = 2 := by have : Z.data.toList.length = 2 := by rw [hZ]; rfl
                                      exact this
          exact ⟨by rw [hps.out, ← hO.out, h2, ByteArray.data_append]; simp [hZ], by rw [ByteArray.size_append]; omega⟩
        have hsz3 : ¬ 9223372036854775807 < O.size + 2 := by omega
        clear hps hal2 hno hO hall h0 h1 h2
        rcases h3 with ⟨rfl, rfl⟩ | ⟨rfl, rfl⟩ | ⟨rfl, rfl⟩ | ⟨rfl, rfl⟩ | ⟨rfl, rfl⟩ | ⟨rfl, rfl⟩
        · obtain ⟨o1, o2⟩ := hO2.out ⟨#[92, 114]⟩ rfl
          replace o1 := Rg.hid o1
          have hcn2 : (s[i].toNat : Int) = 13 := hcn
          clear hO2 hcn
          go_wp2_with (go_at_call 39; refine (HP.out _).mono ?_; rintro e w' ⟨rfl, rfl⟩)
          go_roundw
          case rel => first | exact ⟨i + 1, O ++ ⟨#[92, 114]⟩, by omega, by go_num, rfl, o1, ha2, hbw, o2⟩ | ((repeat apply Exists.intro); exact ⟨⟨i + 1, O ++ ⟨#[92, 114]⟩, by omega, by go_num, rfl, o1, ha2, hbw, o2⟩, rfl⟩)
          case measure => simp [intOf]; omega
        · obtain ⟨o1, o2⟩ := hO2.out ⟨#[92, 110]⟩ rfl
          replace o1 := Rg.hid o1
          have hcn2 : (s[i].toNat : Int) = 10 := hcn
          clear hO2 hcn
          go_wp2_with (go_at_call 39; refine (HP.out _).mono ?_; rintro e w' ⟨rfl, rfl⟩)
          go_roundw
          case rel => first | exact ⟨i + 1, O ++ ⟨#[92, 110]⟩, by omega, by go_num, rfl, o1, ha2, hbw, o2⟩ | ((repeat apply Exists.intro); exact ⟨⟨i + 1, O ++ ⟨#[92, 110]⟩, by omega, by go_num, rfl, o1, ha2, hbw, o2⟩, rfl⟩)
          case measure => simp [intOf]; omega
        · obtain ⟨o1, o2⟩ := hO2.out ⟨#[92, 115]⟩ rfl
          replace o1 := Rg.hid o1
          have hcn2 : (s[i].toNat : Int) = 32 := hcn
          clear hO2 hcn
          go_wp2_with (go_at_call 39; refine (HP.out _).mono ?_; rintro e w' ⟨rfl, rfl⟩)
          go_roundw
          case rel => first | exact ⟨i + 1, O ++ ⟨#[92, 115]⟩, by omega, by go_num, rfl, o1, ha2, hbw, o2⟩ | ((repeat apply Exists.intro); exact ⟨⟨i + 1, O ++ ⟨#[92, 115]⟩, by omega, by go_num, rfl, o1, ha2, hbw, o2⟩, rfl⟩)
          case measure => simp [intOf]; omega
        · obtain ⟨o1, o2⟩ := hO2.out ⟨#[92, 109]⟩ rfl
          replace o1 := Rg.hid o1
          have hcn2 : (s[i].toNat : Int) = 45 := hcn
          clear hO2 hcn
          go_wp2_with (go_at_call 39; refine (HP.out _).mono ?_; rintro e w' ⟨rfl, rfl⟩)
          go_roundw
          case rel => first | exact ⟨i + 1, O ++ ⟨#[92, 109]⟩, by omega, by go_num, rfl, o1, ha2, hbw, o2⟩ | ((repeat apply Exists.intro); exact ⟨⟨i + 1, O ++ ⟨#[92, 109]⟩, by omega, by go_num, rfl, o1, ha2, hbw, o2⟩, rfl⟩)
          case measure => simp [intOf]; omega
        · obtain ⟨o1, o2⟩ := hO2.out ⟨#[92, 113]⟩ rfl
          replace o1 := Rg.hid o1
          have hcn2 : (s[i].toNat : Int) = 34 := hcn
          clear hO2 hcn
          go_wp2_with (go_at_call 39; refine (HP.out _).mono ?_; rintro e w' ⟨rfl, rfl⟩)
          go_roundw
          case rel => first | exact ⟨i + 1, O ++ ⟨#[92, 113]⟩, by omega, by go_num, rfl, o1, ha2, hbw, o2⟩ | ((repeat apply Exists.intro); exact ⟨⟨i + 1, O ++ ⟨#[92, 113]⟩, by omega, by go_num, rfl, o1, ha2, hbw, o2⟩, rfl⟩)
          case measure => simp [intOf]; omega
        · obtain ⟨o1, o2⟩ := hO2.out ⟨#[92, 92]⟩ rfl
          replace o1 := Rg.hid o1
          have hcn2 : (s[i].toNat : Int) = 92 := hcn
          clear hO2 hcn
          go_wp2_with (go_at_call 39; refine (HP.out _).mono ?_; rintro e w' ⟨rfl, rfl⟩)
          go_roundw
          case rel => first | exact ⟨i + 1, O ++ ⟨#[92, 92]⟩, by omega, by go_num, rfl, o1, ha2, hbw, o2⟩ | ((repeat apply Exists.intro); exact ⟨⟨i + 1, O ++ ⟨#[92, 92]⟩, by omega, by go_num, rfl, o1, ha2, hbw, o2⟩, rfl⟩)
          case measure => simp [intOf]; omega
    · have hO2 := hO.out
      have ha2 := hall.out
      rw [List.take_of_length_le (by show s.size ≤ i; rw [← hN.out]; omega)] at hO2 ha2
      have hG2 := hG.out ha2
      have hge1 : ¬ ((i : Int) < (s.size : Int)) := by rw [← hN.out]; omega
      have hge2 : ¬ i < s.size := by rw [← hN.out]; omega
      have hsz3 : ¬ 9223372036854775807 < O.size + 2 := by omega
      have hap : O ++ (⟨#[]⟩ : ByteArray) = O := by apply ba_ext; simp
      by_cases h0 : s.data.toList = []
      · have q2 : (O.toList == []) = true := by rw [tl_eq, hO2, h0]; rfl
        have q1 : ((O ++ (⟨#[]⟩ : ByteArray)).toList == []) = true := by rw [hap]; exact q2
        have hG3 := Rg.hid (hG2.1 h0)
        clear hO hall hO2 ha2 hG2 h0 hap
        go_wp2
        go_ret2
        exact ⟨by rw [hG3.out]; rfl, hbw.out⟩
      · have q2 : (O.toList == []) = false := by rw [tl_eq, hO2]; exact beq_eq_false_iff_ne.2 (fun e => h0 (Ch.putS_nil e))
        have q1 : ((O ++ (⟨#[]⟩ : ByteArray)).toList == []) = false := by rw [hap]; exact q2
        have hG3 := hG2.2 h0
        rw [← hO2] at hG3
        replace hG3 := Rg.hid hG3
        replace hap := Rg.hid hap
        clear hO hall hO2 ha2 hG2 h0
        go_wp2
        go_ret2
        exact ⟨by rw [hG3.out]; first | rfl | exact congrArg (fun X => Ending.returned (.tuple #[.string X, .bool true])) hap.out, hbw.out⟩
end Go.Proofs.YteepfifglafjmaaDoor
