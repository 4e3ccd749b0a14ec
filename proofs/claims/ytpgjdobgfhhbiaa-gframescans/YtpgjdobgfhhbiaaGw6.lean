/-
  Walks of layer 11: what a short packet's field says.
-/
import Derived.Test.YtpgjdobgfhhbiaaGw3
namespace Go.Proofs.Ytpgjdobgfhhbiaa
open Go.RowKit
namespace Gf
theorem getD_at (s : ByteArray) (i : Nat) (h : i < s.size) : s.data.toList.getD i 0 = s[i] := by
  have hl : i < s.data.toList.length := by rw [len_eq]; exact h
  rw [List.getD_eq_getElem?_getD, List.getElem?_eq_getElem hl]
  rfl
theorem extract_eq (s : ByteArray) (a b : Nat) (_h : a ≤ b) (_hb : b ≤ s.size) : (s.extract a b).data.toList = (s.data.toList.drop a).take (b - a) := by
  rw [ByteArray.data_extract, Array.toList_extract]
end Gf
/-- What readField answers. -/
def fieldOut : Option (List UInt8) → Value
  | none => .tuple #[.string ⟨#[]⟩, .int .i64 3]
  | some d => .tuple #[.string ⟨d.toArray⟩, .int .i64 0]
theorem Gf.un_low {b : List UInt8} (h : miss b < from_ b) : unfield b = none := by unfold unfield; rw [if_pos (Or.inl h)]
theorem Gf.un_high {b : List UInt8} (h : b.length < miss b) : unfield b = none := by unfold unfield; rw [if_pos (Or.inr h)]
theorem Gf.un_eq {b : List UInt8} (h : ¬ miss b < from_ b) (h' : ¬ b.length < miss b) (e : field (pick b) b.length = b) : unfield b = some (pick b) := by unfold unfield; rw [if_neg (by omega), if_pos e]
theorem Gf.un_ne {b : List UInt8} (h : ¬ miss b < from_ b) (h' : ¬ b.length < miss b) (e : ¬ field (pick b) b.length = b) : unfield b = none := by unfold unfield; rw [if_neg (by omega), if_neg e]
set_option maxHeartbeats 1000000 in
theorem readField_one (s : ByteArray) (h2 : 2 ≤ s.size) (hz : s.size ≤ 4096) (hb : s[0].toNat < 128) (w : World) :
    Calls Try.prog 39 #[.string s] w fun e w' => e = .returned (fieldOut (Gf.unfield s.data.toList)) ∧ Below w.heap.size w w' := by
  have hF : Gf.from_ s.data.toList = 1 := by unfold Gf.from_; rw [Gf.getD_at s 0 (by omega), if_neg (by omega)]
  have hM : Gf.miss s.data.toList = s[0].toNat := by unfold Gf.miss; rw [Gf.getD_at s 0 (by omega), if_neg (by omega)]
  have hd1 : decide ((128 : Int) ≤ (s[0].toNat : Int)) = false := by simp; omega
  have hlow : Hid (Gf.miss s.data.toList < 1 → Gf.unfield s.data.toList = none) := fun h => Gf.un_low (by rw [hF]; exact h)
  have hhigh : Hid (s.size < Gf.miss s.data.toList → Gf.unfield s.data.toList = none) := fun h => Gf.un_high (by rw [Gf.len_eq]; exact h)
  have heq : Hid (¬ Gf.miss s.data.toList < 1 → ¬ s.size < Gf.miss s.data.toList → Gf.field (Gf.pick s.data.toList) s.size = s.data.toList → Gf.unfield s.data.toList = some (Gf.pick s.data.toList)) := fun h h' e => Gf.un_eq (by rw [hF]; exact h) (by rw [Gf.len_eq]; exact h') (by rw [Gf.len_eq]; exact e)
  have hne : Hid (¬ Gf.miss s.data.toList < 1 → ¬ s.size < Gf.miss s.data.toList → ¬ Gf.field (Gf.pick s.data.toList) s.size = s.data.toList → Gf.unfield s.data.toList = none) := fun h h' e => Gf.un_ne (by rw [hF]; exact h) (by rw [Gf.len_eq]; exact h') (by rw [Gf.len_eq]; exact e)
  have hpk : Hid (Gf.pick s.data.toList = (s.data.toList.drop 1).take (s.size - Gf.miss s.data.toList)) := by show _ = _; unfold Gf.pick; rw [hF, Gf.len_eq]
  rw [hM] at hlow hhigh heq hne hpk
  clear hF hM
  go_enter Try.func39, Try.ntmps39
  go_upto_region 4 with fail
  clear hd1
  generalize s[0].toNat = M at *
  by_cases a1 : M < 1
  · have hr : Hid (Gf.unfield s.data.toList = none) := hlow.out a1
    have d1 : decide ((M : Int) < 1) = true := by simp; omega
    clear hlow hhigh heq hne
    go_wp2
    go_ret2
    exact ⟨by rw [hr.out]; rfl, Below.refl _ _⟩
  have d1 : decide ((M : Int) < 1) = false := by simp; omega
  by_cases a2 : s.size < M
  · have hr : Hid (Gf.unfield s.data.toList = none) := hhigh.out a2
    have d2 : decide ((s.size : Int) < (M : Int)) = true := by simp; omega
    clear hlow hhigh heq hne
    go_wp2
    go_ret2
    exact ⟨by rw [hr.out]; rfl, Below.refl _ _⟩
  have d2 : decide ((s.size : Int) < (M : Int)) = false := by simp; omega
  obtain ⟨E, hE⟩ : ∃ E, 1 + s.size - M = E := ⟨_, rfl⟩
  have hEi : (1 : Int) + (s.size : Int) - (M : Int) = (E : Int) := by omega
  have hE1 : 1 ≤ E := by omega
  have hE2 : E ≤ s.size := by omega
  have hE1i : (1 : Int) ≤ (E : Int) := by omega
  have hE2i : (E : Int) ≤ (s.size : Int) := by omega
  have hEd : E - 1 = s.size - M := by omega
  replace hE := Rg.hid hE
  have hDd : (s.extract 1 E).data.toList = Gf.pick s.data.toList := by
    rw [Gf.extract_eq s 1 E hE1 hE2, hpk.out, hEd]
  have hDs : (s.extract 1 E).size < s.size := by
    rw [← Gf.len_eq, Gf.extract_eq s 1 E hE1 hE2, List.length_take, List.length_drop, Gf.len_eq]
    omega
  have HF := gfield_any (s.extract 1 E) s.size hDs hz
  rw [hDd] at HF
  have HF : Hid _ := HF
  clear hhigh
  have hDs2 : (s.extract 1 E).size ≤ 4096 := by omega
  have hDr : Hid ((s.extract 1 E) = ⟨(Gf.pick s.data.toList).toArray⟩) := by show _ = _; rw [← hDd]
  clear hDd
  go_upto_region 7 with fail
  generalize s.extract 1 E = D at *
  have HF2 : Hid (∀ w : World, Calls Try.prog 23 #[.string D, .int .i64 s.size] w fun e w' => e = .returned (.string ⟨(Gf.field (Gf.pick s.data.toList) s.size).toArray⟩) ∧ Below w.heap.size w w') := HF
  clear HF hEi hE1i hE2i hEd
  by_cases he : Gf.field (Gf.pick s.data.toList) s.size = s.data.toList
  · have hr : Hid (Gf.unfield s.data.toList = some (Gf.pick s.data.toList)) := heq.out a1 a2 he
    have d3 : ((⟨(Gf.field (Gf.pick s.data.toList) s.size).toArray⟩ : ByteArray).toList == s.toList) = true := by rw [tl_eq, tl_eq]; exact beq_iff_eq.2 he
    generalize (⟨(Gf.field (Gf.pick s.data.toList) s.size).toArray⟩ : ByteArray) = FF at *
    clear heq hne he
    go_wp2_with (go_at_call 23; refine (HF2.out _).mono ?_; rintro e w2 ⟨rfl, b2⟩)
    go_ret2
    exact ⟨by rw [hr.out, hDr.out]; rfl, b2⟩
  · have hr : Hid (Gf.unfield s.data.toList = none) := hne.out a1 a2 he
    have d3 : ((⟨(Gf.field (Gf.pick s.data.toList) s.size).toArray⟩ : ByteArray).toList == s.toList) = false := by rw [tl_eq, tl_eq]; exact beq_eq_false_iff_ne.2 he
    generalize (⟨(Gf.field (Gf.pick s.data.toList) s.size).toArray⟩ : ByteArray) = FF at *
    clear heq hne he
    go_wp2_with (go_at_call 23; refine (HF2.out _).mono ?_; rintro e w2 ⟨rfl, b2⟩)
    go_ret2
    exact ⟨by rw [hr.out]; rfl, b2⟩
set_option maxHeartbeats 1000000 in
theorem readField_two (s : ByteArray) (h2 : 2 ≤ s.size) (hz : s.size ≤ 4096) (hb : ¬ s[0].toNat < 128) (w : World) :
    Calls Try.prog 39 #[.string s] w fun e w' => e = .returned (fieldOut (Gf.unfield s.data.toList)) ∧ Below w.heap.size w w' := by
  have hF : Gf.from_ s.data.toList = 2 := by unfold Gf.from_; rw [Gf.getD_at s 0 (by omega), if_pos (by omega)]
  have hM : Gf.miss s.data.toList = s[0].toNat - 128 + 128 * s[1].toNat := by unfold Gf.miss; rw [Gf.getD_at s 0 (by omega), Gf.getD_at s 1 (by omega), if_pos (by omega)]
  have hd1 : decide ((128 : Int) ≤ (s[0].toNat : Int)) = true := by simp; omega
  have hml := Gf.miss_lt s.data.toList
  have hlow : Hid (Gf.miss s.data.toList < 2 → Gf.unfield s.data.toList = none) := fun h => Gf.un_low (by rw [hF]; exact h)
  have hhigh : Hid (s.size < Gf.miss s.data.toList → Gf.unfield s.data.toList = none) := fun h => Gf.un_high (by rw [Gf.len_eq]; exact h)
  have heq : Hid (¬ Gf.miss s.data.toList < 2 → ¬ s.size < Gf.miss s.data.toList → Gf.field (Gf.pick s.data.toList) s.size = s.data.toList → Gf.unfield s.data.toList = some (Gf.pick s.data.toList)) := fun h h' e => Gf.un_eq (by rw [hF]; exact h) (by rw [Gf.len_eq]; exact h') (by rw [Gf.len_eq]; exact e)
  have hne : Hid (¬ Gf.miss s.data.toList < 2 → ¬ s.size < Gf.miss s.data.toList → ¬ Gf.field (Gf.pick s.data.toList) s.size = s.data.toList → Gf.unfield s.data.toList = none) := fun h h' e => Gf.un_ne (by rw [hF]; exact h) (by rw [Gf.len_eq]; exact h') (by rw [Gf.len_eq]; exact e)
  have hpk : Hid (Gf.pick s.data.toList = (s.data.toList.drop 2).take (s.size - Gf.miss s.data.toList)) := by show _ = _; unfold Gf.pick; rw [hF, Gf.len_eq]
  clear hF
  generalize Gf.miss s.data.toList = M at *
  have hMi : Hid ((s[0].toNat : Int) - (128 : Int) + (128 : Int) * (s[1].toNat : Int) = (M : Int)) := by show _ = _; omega
  replace hM := Rg.hid hM
  have hx0 := UInt8.toNat_lt s[0]
  have hx1 := UInt8.toNat_lt s[1]
  go_enter Try.func39, Try.ntmps39
  go_upto_region 4 with fail
  rw [hMi.out]
  clear hMi hM hd1 hb hx0 hx1
  by_cases a1 : M < 2
  · have hr : Hid (Gf.unfield s.data.toList = none) := hlow.out a1
    have d1 : decide ((M : Int) < 2) = true := by simp; omega
    clear hlow hhigh heq hne
    go_wp2
    go_ret2
    exact ⟨by rw [hr.out]; rfl, Below.refl _ _⟩
  have d1 : decide ((M : Int) < 2) = false := by simp; omega
  by_cases a2 : s.size < M
  · have hr : Hid (Gf.unfield s.data.toList = none) := hhigh.out a2
    have d2 : decide ((s.size : Int) < (M : Int)) = true := by simp; omega
    clear hlow hhigh heq hne
    go_wp2
    go_ret2
    exact ⟨by rw [hr.out]; rfl, Below.refl _ _⟩
  have d2 : decide ((s.size : Int) < (M : Int)) = false := by simp; omega
  obtain ⟨E, hE⟩ : ∃ E, 2 + s.size - M = E := ⟨_, rfl⟩
  have hEi : (2 : Int) + (s.size : Int) - (M : Int) = (E : Int) := by omega
  have hE1 : 2 ≤ E := by omega
  have hE2 : E ≤ s.size := by omega
  have hE1i : (2 : Int) ≤ (E : Int) := by omega
  have hE2i : (E : Int) ≤ (s.size : Int) := by omega
  have hEd : E - 2 = s.size - M := by omega
  replace hE := Rg.hid hE
  have hDd : (s.extract 2 E).data.toList = Gf.pick s.data.toList := by
    rw [Gf.extract_eq s 2 E hE1 hE2, hpk.out, hEd]
  have hDs : (s.extract 2 E).size < s.size := by
    rw [← Gf.len_eq, Gf.extract_eq s 2 E hE1 hE2, List.length_take, List.length_drop, Gf.len_eq]
    omega
  have HF := gfield_any (s.extract 2 E) s.size hDs hz
  rw [hDd] at HF
  have HF : Hid _ := HF
  clear hhigh
  have hDs2 : (s.extract 2 E).size ≤ 4096 := by omega
  have hDr : Hid ((s.extract 2 E) = ⟨(Gf.pick s.data.toList).toArray⟩) := by show _ = _; rw [← hDd]
  clear hDd
  go_upto_region 7 with fail
  generalize s.extract 2 E = D at *
  have HF2 : Hid (∀ w : World, Calls Try.prog 23 #[.string D, .int .i64 s.size] w fun e w' => e = .returned (.string ⟨(Gf.field (Gf.pick s.data.toList) s.size).toArray⟩) ∧ Below w.heap.size w w') := HF
  clear HF hEi hE1i hE2i hEd
  by_cases he : Gf.field (Gf.pick s.data.toList) s.size = s.data.toList
  · have hr : Hid (Gf.unfield s.data.toList = some (Gf.pick s.data.toList)) := heq.out a1 a2 he
    have d3 : ((⟨(Gf.field (Gf.pick s.data.toList) s.size).toArray⟩ : ByteArray).toList == s.toList) = true := by rw [tl_eq, tl_eq]; exact beq_iff_eq.2 he
    generalize (⟨(Gf.field (Gf.pick s.data.toList) s.size).toArray⟩ : ByteArray) = FF at *
    clear heq hne he
    go_wp2_with (go_at_call 23; refine (HF2.out _).mono ?_; rintro e w2 ⟨rfl, b2⟩)
    go_ret2
    exact ⟨by rw [hr.out, hDr.out]; rfl, b2⟩
  · have hr : Hid (Gf.unfield s.data.toList = none) := hne.out a1 a2 he
    have d3 : ((⟨(Gf.field (Gf.pick s.data.toList) s.size).toArray⟩ : ByteArray).toList == s.toList) = false := by rw [tl_eq, tl_eq]; exact beq_eq_false_iff_ne.2 he
    generalize (⟨(Gf.field (Gf.pick s.data.toList) s.size).toArray⟩ : ByteArray) = FF at *
    clear heq hne he
    go_wp2_with (go_at_call 23; refine (HF2.out _).mono ?_; rintro e w2 ⟨rfl, b2⟩)
    go_ret2
    exact ⟨by rw [hr.out]; rfl, b2⟩

theorem readField_any (s : ByteArray) (h2 : 2 ≤ s.size) (hz : s.size ≤ 4096) (w : World) :
    Calls Try.prog 39 #[.string s] w fun e w' => e = .returned (fieldOut (Gf.unfield s.data.toList)) ∧ Below w.heap.size w w' := by
  by_cases hb : s[0].toNat < 128
  · exact readField_one s h2 hz hb w
  · exact readField_two s h2 hz hb w
end Go.Proofs.Ytpgjdobgfhhbiaa
