/-
  Walks of layer 11: what a short packet's field says. Walks of layer 11: what stands behind a head. Walks of layer 11: Read. What Read's head says: numbers and bytes.
-/
import Derived.Test.YtfiffbohhhehkaaGreatBuFrA
import Derived.Test.YtfiffbohhhehkaaGreatBuBase
namespace Go.Proofs.YtfiffbohhhehkaaGreat
open Go.RowKit
namespace Gf
theorem getD_at (s : ByteArray) (i : Nat) (h : i < s.size) : s.data.toList.getD i 0 = s[i] := by
  have hl : i < s.data.toList.length := by rw [len_eq]; exact h
  rw [List.getD_eq_getElem?_getD, List.getElem?_eq_getElem hl]
  rfl
theorem extract_eq (s : ByteArray) (a b : Nat) (_h : a ≤ b) (_hb : b ≤ s.size) : (s.extract a b).data.toList = (s.data.toList.drop a).take (b - a) := by
  rw [ByteArray.data_extract, Array.toList_extract]
end Gf
/-- What readField answers. -/
def fieldOut : Option (List UInt8) → Value
  | none => .tuple #[.string ⟨#[]⟩, .int .i64 3]
  | some d => .tuple #[.string ⟨d.toArray⟩, .int .i64 0]
theorem Gf.un_low {b : List UInt8} (h : miss b < from_ b) : unfield b = none := by unfold unfield; rw [if_pos (Or.inl h)]
theorem Gf.un_high {b : List UInt8} (h : b.length < miss b) : unfield b = none := by unfold unfield; rw [if_pos (Or.inr h)]
theorem Gf.un_eq {b : List UInt8} (h : ¬ miss b < from_ b) (h' : ¬ b.length < miss b) (e : field (pick b) b.length = b) : unfield b = some (pick b) := by unfold unfield; rw [if_neg (by omega), if_pos e]
theorem Gf.un_ne {b : List UInt8} (h : ¬ miss b < from_ b) (h' : ¬ b.length < miss b) (e : ¬ field (pick b) b.length = b) : unfield b = none := by unfold unfield; rw [if_neg (by omega), if_neg e]
set_option maxHeartbeats 1000000 in
theorem readField_one (s : ByteArray) (h2 : 2 ≤ s.size) (hz : s.size ≤ 4096) (hb : s[0].toNat < 128) (w : World) :
    Calls Tryz.prog 124 #[.string s] w fun e w' => e = .returned (fieldOut (Gf.unfield s.data.toList)) ∧ Below w.heap.size w w' := by
  have hF : Gf.from_ s.data.toList = 1 := by unfold Gf.from_; rw [Gf.getD_at s 0 (by omega), if_neg (by omega)]
  have hM : Gf.miss s.data.toList = s[0].toNat := by unfold Gf.miss; rw [Gf.getD_at s 0 (by omega), if_neg (by omega)]
  have hd1 : decide ((128 : Int) ≤ (s[0].toNat : Int)) = false := by simp; omega
  have hlow : Hid (Gf.miss s.data.toList < 1 → Gf.unfield s.data.toList = none) := fun h => Gf.un_low (by rw [hF]; exact h)
  have hhigh : Hid (s.size < Gf.miss s.data.toList → Gf.unfield s.data.toList = none) := fun h => Gf.un_high (by rw [Gf.len_eq]; exact h)
  have heq : Hid (¬ Gf.miss s.data.toList < 1 → ¬ s.size < Gf.miss s.data.toList → Gf.field (Gf.pick s.data.toList) s.size = s.data.toList → Gf.unfield s.data.toList = some (Gf.pick s.data.toList)) := fun h h' e => Gf.un_eq (by rw [hF]; exact h) (by rw [Gf.len_eq]; exact h') (by rw [Gf.len_eq]; exact e)
  have hne : Hid (¬ Gf.miss s.data.toList < 1 → ¬ s.size < Gf.miss s.data.toList → ¬ Gf.field (Gf.pick s.data.toList) s.size = s.data.toList → Gf.unfield s.data.toList = none) := fun h h' e => Gf.un_ne (by rw [hF]; exact h) (by rw [Gf.len_eq]; exact h') (by rw [Gf.len_eq]; exact e)
  have hpk : Hid (Gf.pick s.data.toList = (s.data.toList.drop 1).take (s.size - Gf.miss s.data.toList)) := by show _ = _; unfold Gf.pick; rw [hF, Gf.len_eq]
  rw [hM] at hlow hhigh heq hne hpk
  clear hF hM
  go_enter Tryz.func124, Tryz.ntmps124
  go_upto_region 4 with fail
  clear hd1
  generalize s[0].toNat = M at *
  by_cases a1 : M < 1
  · have hr : Hid (Gf.unfield s.data.toList = none) := hlow.out a1
    have d1 : decide ((M : Int) < 1) = true := by simp; omega
    clear hlow hhigh heq hne
    go_wp2
    go_ret2
    exact ⟨by rw [hr.out]; rfl, Below.refl _ _⟩
  have d1 : decide ((M : Int) < 1) = false := by simp; omega
  by_cases a2 : s.size < M
  · have hr : Hid (Gf.unfield s.data.toList = none) := hhigh.out a2
    have d2 : decide ((s.size : Int) < (M : Int)) = true := by simp; omega
    clear hlow hhigh heq hne
    go_wp2
    go_ret2
    exact ⟨by rw [hr.out]; rfl, Below.refl _ _⟩
  have d2 : decide ((s.size : Int) < (M : Int)) = false := by simp; omega
  obtain ⟨E, hE⟩ : ∃ E, 1 + s.size - M = E := ⟨_, rfl⟩
  have hEi : (1 : Int) + (s.size : Int) - (M : Int) = (E : Int) := by omega
  have hE1 : 1 ≤ E := by omega
  have hE2 : E ≤ s.size := by omega
  have hE1i : (1 : Int) ≤ (E : Int) := by omega
  have hE2i : (E : Int) ≤ (s.size : Int) := by omega
  have hEd : E - 1 = s.size - M := by omega
  replace hE := Rg.hid hE
  have hDd : (s.extract 1 E).data.toList = Gf.pick s.data.toList := by
    rw [Gf.extract_eq s 1 E hE1 hE2, hpk.out, hEd]
  have hDs : (s.extract 1 E).size < s.size := by
    rw [← Gf.len_eq, Gf.extract_eq s 1 E hE1 hE2, List.length_take, List.length_drop, Gf.len_eq]
    omega
  have HF := gfield_any (s.extract 1 E) s.size hDs hz
  rw [hDd] at HF
  have HF : Hid _ := HF
  clear hhigh
  have hDs2 : (s.extract 1 E).size ≤ 4096 := by omega
  have hDr : Hid ((s.extract 1 E) = ⟨(Gf.pick s.data.toList).toArray⟩) := by show _ = _; rw [← hDd]
  clear hDd
  go_upto_region 7 with fail
  generalize s.extract 1 E = D at *
  have HF2 : Hid (∀ w : World, Calls Tryz.prog 119 #[.string D, .int .i64 s.size] w fun e w' => e = .returned (.string ⟨(Gf.field (Gf.pick s.data.toList) s.size).toArray⟩) ∧ Below w.heap.size w w') := HF
  clear HF hEi hE1i hE2i hEd
  by_cases he : Gf.field (Gf.pick s.data.toList) s.size = s.data.toList
  · have hr : Hid (Gf.unfield s.data.toList = some (Gf.pick s.data.toList)) := heq.out a1 a2 he
    have d3 : ((⟨(Gf.field (Gf.pick s.data.toList) s.size).toArray⟩ : ByteArray).toList == s.toList) = true := by rw [tl_eq, tl_eq]; exact beq_iff_eq.2 he
    generalize (⟨(Gf.field (Gf.pick s.data.toList) s.size).toArray⟩ : ByteArray) = FF at *
    clear heq hne he
    go_wp2_with (go_at_call 119; refine (HF2.out _).mono ?_; rintro e w2 ⟨rfl, b2⟩)
    go_ret2
    exact ⟨by rw [hr.out, hDr.out]; rfl, b2⟩
  · have hr : Hid (Gf.unfield s.data.toList = none) := hne.out a1 a2 he
    have d3 : ((⟨(Gf.field (Gf.pick s.data.toList) s.size).toArray⟩ : ByteArray).toList == s.toList) = false := by rw [tl_eq, tl_eq]; exact beq_eq_false_iff_ne.2 he
    generalize (⟨(Gf.field (Gf.pick s.data.toList) s.size).toArray⟩ : ByteArray) = FF at *
    clear heq hne he
    go_wp2_with (go_at_call 119; refine (HF2.out _).mono ?_; rintro e w2 ⟨rfl, b2⟩)
    go_ret2
    exact ⟨by rw [hr.out]; rfl, b2⟩
set_option maxHeartbeats 1000000 in
theorem readField_two (s : ByteArray) (h2 : 2 ≤ s.size) (hz : s.size ≤ 4096) (hb : ¬ s[0].toNat < 128) (w : World) :
    Calls Tryz.prog 124 #[.string s] w fun e w' => e = .returned (fieldOut (Gf.unfield s.data.toList)) ∧ Below w.heap.size w w' := by
  have hF : Gf.from_ s.data.toList = 2 := by unfold Gf.from_; rw [Gf.getD_at s 0 (by omega), if_pos (by omega)]
  have hM : Gf.miss s.data.toList = s[0].toNat - 128 + 128 * s[1].toNat := by unfold Gf.miss; rw [Gf.getD_at s 0 (by omega), Gf.getD_at s 1 (by omega), if_pos (by omega)]
  have hd1 : decide ((128 : Int) ≤ (s[0].toNat : Int)) = true := by simp; omega
  have hml := Gf.miss_lt s.data.toList
  have hlow : Hid (Gf.miss s.data.toList < 2 → Gf.unfield s.data.toList = none) := fun h => Gf.un_low (by rw [hF]; exact h)
  have hhigh : Hid (s.size < Gf.miss s.data.toList → Gf.unfield s.data.toList = none) := fun h => Gf.un_high (by rw [Gf.len_eq]; exact h)
  have heq : Hid (¬ Gf.miss s.data.toList < 2 → ¬ s.size < Gf.miss s.data.toList → Gf.field (Gf.pick s.data.toList) s.size = s.data.toList → Gf.unfield s.data.toList = some (Gf.pick s.data.toList)) := fun h h' e => Gf.un_eq (by rw [hF]; exact h) (by rw [Gf.len_eq]; exact h') (by rw [Gf.len_eq]; exact e)
  have hne : Hid (¬ Gf.miss s.data.toList < 2 → ¬ s.size < Gf.miss s.data.toList → ¬ Gf.field (Gf.pick s.data.toList) s.size = s.data.toList → Gf.unfield s.data.toList = none) := fun h h' e => Gf.un_ne (by rw [hF]; exact h) (by rw [Gf.len_eq]; exact h') (by rw [Gf.len_eq]; exact e)
  have hpk : Hid (Gf.pick s.data.toList = (s.data.toList.drop 2).take (s.size - Gf.miss s.data.toList)) := by show _ = _; unfold Gf.pick; rw [hF, Gf.len_eq]
  clear hF
  generalize Gf.miss s.data.toList = M at *
  have hMi : Hid ((s[0].toNat : Int) - (128 : Int) + (128 : Int) * (s[1].toNat : Int) = (M : Int)) := by show _ = _; omega
  replace hM := Rg.hid hM
  have hx0 := UInt8.toNat_lt s[0]
  have hx1 := UInt8.toNat_lt s[1]
  go_enter Tryz.func124, Tryz.ntmps124
  go_upto_region 4 with fail
  rw [hMi.out]
  clear hMi hM hd1 hb hx0 hx1
  by_cases a1 : M < 2
  · have hr : Hid (Gf.unfield s.data.toList = none) := hlow.out a1
    have d1 : decide ((M : Int) < 2) = true := by simp; omega
    clear hlow hhigh heq hne
    go_wp2
    go_ret2
    exact ⟨by rw [hr.out]; rfl, Below.refl _ _⟩
  have d1 : decide ((M : Int) < 2) = false := by simp; omega
  by_cases a2 : s.size < M
  · have hr : Hid (Gf.unfield s.data.toList = none) := hhigh.out a2
    have d2 : decide ((s.size : Int) < (M : Int)) = true := by simp; omega
    clear hlow hhigh heq hne
    go_wp2
    go_ret2
    exact ⟨by rw [hr.out]; rfl, Below.refl _ _⟩
  have d2 : decide ((s.size : Int) < (M : Int)) = false := by simp; omega
  obtain ⟨E, hE⟩ : ∃ E, 2 + s.size - M = E := ⟨_, rfl⟩
  have hEi : (2 : Int) + (s.size : Int) - (M : Int) = (E : Int) := by omega
  have hE1 : 2 ≤ E := by omega
  have hE2 : E ≤ s.size := by omega
  have hE1i : (2 : Int) ≤ (E : Int) := by omega
  have hE2i : (E : Int) ≤ (s.size : Int) := by omega
  have hEd : E - 2 = s.size - M := by omega
  replace hE := Rg.hid hE
  have hDd : (s.extract 2 E).data.toList = Gf.pick s.data.toList := by
    rw [Gf.extract_eq s 2 E hE1 hE2, hpk.out, hEd]
  have hDs : (s.extract 2 E).size < s.size := by
    rw [← Gf.len_eq, Gf.extract_eq s 2 E hE1 hE2, List.length_take, List.length_drop, Gf.len_eq]
    omega
  have HF := gfield_any (s.extract 2 E) s.size hDs hz
  rw [hDd] at HF
  have HF : Hid _ := HF
  clear hhigh
  have hDs2 : (s.extract 2 E).size ≤ 4096 := by omega
  have hDr : Hid ((s.extract 2 E) = ⟨(Gf.pick s.data.toList).toArray⟩) := by show _ = _; rw [← hDd]
  clear hDd
  go_upto_region 7 with fail
  generalize s.extract 2 E = D at *
  have HF2 : Hid (∀ w : World, Calls Tryz.prog 119 #[.string D, .int .i64 s.size] w fun e w' => e = .returned (.string ⟨(Gf.field (Gf.pick s.data.toList) s.size).toArray⟩) ∧ Below w.heap.size w w') := HF
  clear HF hEi hE1i hE2i hEd
  by_cases he : Gf.field (Gf.pick s.data.toList) s.size = s.data.toList
  · have hr : Hid (Gf.unfield s.data.toList = some (Gf.pick s.data.toList)) := heq.out a1 a2 he
    have d3 : ((⟨(Gf.field (Gf.pick s.data.toList) s.size).toArray⟩ : ByteArray).toList == s.toList) = true := by rw [tl_eq, tl_eq]; exact beq_iff_eq.2 he
    generalize (⟨(Gf.field (Gf.pick s.data.toList) s.size).toArray⟩ : ByteArray) = FF at *
    clear heq hne he
    go_wp2_with (go_at_call 119; refine (HF2.out _).mono ?_; rintro e w2 ⟨rfl, b2⟩)
    go_ret2
    exact ⟨by rw [hr.out, hDr.out]; rfl, b2⟩
  · have hr : Hid (Gf.unfield s.data.toList = none) := hne.out a1 a2 he
    have d3 : ((⟨(Gf.field (Gf.pick s.data.toList) s.size).toArray⟩ : ByteArray).toList == s.toList) = false := by rw [tl_eq, tl_eq]; exact beq_eq_false_iff_ne.2 he
    generalize (⟨(Gf.field (Gf.pick s.data.toList) s.size).toArray⟩ : ByteArray) = FF at *
    clear heq hne he
    go_wp2_with (go_at_call 119; refine (HF2.out _).mono ?_; rintro e w2 ⟨rfl, b2⟩)
    go_ret2
    exact ⟨by rw [hr.out]; rfl, b2⟩

theorem readField_any (s : ByteArray) (h2 : 2 ≤ s.size) (hz : s.size ≤ 4096) (w : World) :
    Calls Tryz.prog 124 #[.string s] w fun e w' => e = .returned (fieldOut (Gf.unfield s.data.toList)) ∧ Below w.heap.size w w' := by
  by_cases hb : s[0].toNat < 128
  · exact readField_one s h2 hz hb w
  · exact readField_two s h2 hz hb w
end Go.Proofs.YtfiffbohhhehkaaGreat

namespace Go.Proofs.YtfiffbohhhehkaaGreat
open Go.RowKit
set_option maxHeartbeats 1000000 in
theorem readBody_short (s : ByteArray) (k m c : Nat) (t : Int) (hlt : s.size < Gf.size k) (h1 : 1 ≤ k) (h8 : k ≤ 8) (hs : s.size ≤ maxLen) (w : World) :
    Calls Tryz.prog 102 #[.string s, .agg #[.int .i64 k, .int .i64 m, .int .i64 c], .int .i64 t] w fun e w' => e = .returned (.tuple #[.string ⟨#[]⟩, .int .i64 2]) ∧ Below w.heap.size w w' := by
  have bw := Gf.below1 w (.cells #[.int .i64 k, .int .i64 m, .int .i64 c] 133)
  have k0 : Rg.Bk w.heap.size [.int .i64 k, .int .i64 m, .int .i64 c] 133 (w.alloc (.cells #[.int .i64 k, .int .i64 m, .int .i64 c] 133)) := Rg.Bk.new rfl
  have HS : Hid (∀ W, Calls Tryz.prog 101 #[.int .i64 k] W fun e w' => e = .returned (.int .i64 (Gf.size k : Nat)) ∧ w' = W) := fun W => sizeOf_any k h1 h8 W
  have hz := Gf.size_range h1 h8
  clear h1 h8
  have hml : s.size ≤ 9223372036854775807 := hs
  generalize Gf.size k = z at *
  have d1 : decide ((s.size : Int) < (z : Int)) = true := by simp; omega
  clear hs
  go_enter Tryz.func102, Tryz.ntmps102
  go_wp2_with (go_at_call 101; refine (HS.out _).mono ?_; rintro e w2 ⟨rfl, rfl⟩)
  go_ret2
  exact ⟨rfl, bw⟩
set_option maxHeartbeats 1000000 in
theorem readBody_sum (s : ByteArray) (k m c : Nat) (t : Int) (hge : ¬ s.size < Gf.size k) (hp : ¬ (m : Int) = Chk.packet (s.data.toList.take (Gf.size k)) c) (h1 : 1 ≤ k) (h8 : k ≤ 8) (hs : s.size ≤ maxLen) (w : World) :
    Calls Tryz.prog 102 #[.string s, .agg #[.int .i64 k, .int .i64 m, .int .i64 c], .int .i64 t] w fun e w' => e = .returned (.tuple #[.string ⟨#[]⟩, .int .i64 4]) ∧ Below w.heap.size w w' := by
  have bw := Gf.below1 w (.cells #[.int .i64 k, .int .i64 m, .int .i64 c] 133)
  have k0 : Rg.Bk w.heap.size [.int .i64 k, .int .i64 m, .int .i64 c] 133 (w.alloc (.cells #[.int .i64 k, .int .i64 m, .int .i64 c] 133)) := Rg.Bk.new rfl
  have HS : Hid (∀ W, Calls Tryz.prog 101 #[.int .i64 k] W fun e w' => e = .returned (.int .i64 (Gf.size k : Nat)) ∧ w' = W) := fun W => sizeOf_any k h1 h8 W
  have hz := Gf.size_range h1 h8
  clear h1 h8
  have hml : s.size ≤ 9223372036854775807 := hs
  have hbd : (s.extract 0 (Gf.size k)).data.toList = s.data.toList.take (Gf.size k) := by rw [Gf.extract_eq s 0 _ (Nat.zero_le _) (by omega)]; rfl
  have hbs : (s.extract 0 (Gf.size k)).size = Gf.size k := by rw [← Gf.len_eq, hbd, List.length_take, Gf.len_eq]; omega
  have HP : Hid (∀ W, Calls Tryz.prog 123 #[.string (s.extract 0 (Gf.size k)), .int .i64 c] W fun e w' => e = .returned (.int .i64 (Chk.packet (s.data.toList.take (Gf.size k)) c)) ∧ w' = W) := fun W => by have := packet_any (s.extract 0 (Gf.size k)) c W (by unfold maxLen; omega); rwa [hbd] at this
  generalize Chk.packet (s.data.toList.take (Gf.size k)) c = P at *
  have d1 : decide ((s.size : Int) < (Gf.size k : Int)) = false := by simp; omega
  have d2 : ((m : Int) == P) = false := beq_eq_false_iff_ne.2 hp
  clear hp hbd
  generalize Gf.size k = z at *
  clear hs
  go_enter Tryz.func102, Tryz.ntmps102
  go_upto_region 5 with (go_at_call 101; refine (HS.out _).mono ?_; rintro e w2 ⟨rfl, rfl⟩)
  have c0 := k0.cell 0; have c1 := k0.cell 1; have c2 := k0.cell 2
  simp only [List.getElem?_cons_zero, List.getElem?_cons_succ] at c0 c1 c2
  generalize s.extract 0 z = bd at *
  generalize w.alloc (.cells #[.int .i64 k, .int .i64 m, .int .i64 c] 133) = W at *
  generalize hB : w.heap.size = B at *
  replace hB := Rg.hid hB
  go_region_held3 (fun w' => w'.cell? ⟨B, 0, none⟩ = some (.int .i64 k) ∧ w'.cell? ⟨B, 1, none⟩ = some (.int .i64 m) ∧ w'.cell? ⟨B, 2, none⟩ = some (.int .i64 c)) (go_keep) (first
    | (go_at_call 123; refine (HP.out _).mono ?_; rintro e w2 ⟨rfl, rfl⟩))
  go_wp2
  go_ret2
  exact ⟨rfl, by rw [hB.out]; first | exact bw | exact bw.drew⟩
set_option maxHeartbeats 1000000 in
theorem readBody_long (s : ByteArray) (k m c : Nat) (hge : ¬ s.size < Gf.size k) (hp : (m : Int) = Chk.packet (s.data.toList.take (Gf.size k)) c) (h1 : 1 ≤ k) (h8 : k ≤ 8) (hs : s.size ≤ maxLen) (w : World) :
    Calls Tryz.prog 102 #[.string s, .agg #[.int .i64 k, .int .i64 m, .int .i64 c], .int .i64 2] w fun e w' => e = .returned (.tuple #[.string ⟨(s.data.toList.take (Gf.size k)).toArray⟩, .int .i64 0]) ∧ Below w.heap.size w w' := by
  have bw := Gf.below1 w (.cells #[.int .i64 k, .int .i64 m, .int .i64 c] 133)
  have k0 : Rg.Bk w.heap.size [.int .i64 k, .int .i64 m, .int .i64 c] 133 (w.alloc (.cells #[.int .i64 k, .int .i64 m, .int .i64 c] 133)) := Rg.Bk.new rfl
  have HS : Hid (∀ W, Calls Tryz.prog 101 #[.int .i64 k] W fun e w' => e = .returned (.int .i64 (Gf.size k : Nat)) ∧ w' = W) := fun W => sizeOf_any k h1 h8 W
  have hz := Gf.size_range h1 h8
  clear h1 h8
  have hml : s.size ≤ 9223372036854775807 := hs
  have hbd : (s.extract 0 (Gf.size k)).data.toList = s.data.toList.take (Gf.size k) := by rw [Gf.extract_eq s 0 _ (Nat.zero_le _) (by omega)]; rfl
  have hbs : (s.extract 0 (Gf.size k)).size = Gf.size k := by rw [← Gf.len_eq, hbd, List.length_take, Gf.len_eq]; omega
  have HP : Hid (∀ W, Calls Tryz.prog 123 #[.string (s.extract 0 (Gf.size k)), .int .i64 c] W fun e w' => e = .returned (.int .i64 (Chk.packet (s.data.toList.take (Gf.size k)) c)) ∧ w' = W) := fun W => by have := packet_any (s.extract 0 (Gf.size k)) c W (by unfold maxLen; omega); rwa [hbd] at this
  generalize Chk.packet (s.data.toList.take (Gf.size k)) c = P at *
  have d1 : decide ((s.size : Int) < (Gf.size k : Int)) = false := by simp; omega
  have d2 : ((m : Int) == P) = true := beq_iff_eq.2 hp
  have hr : Hid ((s.extract 0 (Gf.size k)) = ⟨(s.data.toList.take (Gf.size k)).toArray⟩) := by show _ = _; rw [← hbd]
  clear hp hbd
  generalize Gf.size k = z at *
  clear hs
  go_enter Tryz.func102, Tryz.ntmps102
  go_upto_region 5 with (go_at_call 101; refine (HS.out _).mono ?_; rintro e w2 ⟨rfl, rfl⟩)
  have c0 := k0.cell 0; have c1 := k0.cell 1; have c2 := k0.cell 2
  simp only [List.getElem?_cons_zero, List.getElem?_cons_succ] at c0 c1 c2
  generalize s.extract 0 z = bd at *
  generalize w.alloc (.cells #[.int .i64 k, .int .i64 m, .int .i64 c] 133) = W at *
  generalize hB : w.heap.size = B at *
  replace hB := Rg.hid hB
  go_region_held3 (fun w' => w'.cell? ⟨B, 0, none⟩ = some (.int .i64 k) ∧ w'.cell? ⟨B, 1, none⟩ = some (.int .i64 m) ∧ w'.cell? ⟨B, 2, none⟩ = some (.int .i64 c)) (go_keep) (first
    | (go_at_call 123; refine (HP.out _).mono ?_; rintro e w2 ⟨rfl, rfl⟩))
  go_wp2
  go_ret2
  exact ⟨ret_se hr.out rfl, by rw [hB.out]; first | exact bw | exact bw.drew⟩
set_option maxHeartbeats 1000000 in
theorem readBody_field (s : ByteArray) (k m c : Nat) (hge : ¬ s.size < Gf.size k) (hp : (m : Int) = Chk.packet (s.data.toList.take (Gf.size k)) c) (h1 : 1 ≤ k) (h8 : k ≤ 8) (hs : s.size ≤ maxLen) (w : World) :
    Calls Tryz.prog 102 #[.string s, .agg #[.int .i64 k, .int .i64 m, .int .i64 c], .int .i64 3] w fun e w' => e = .returned (fieldOut (Gf.unfield (s.data.toList.take (Gf.size k)))) ∧ Below w.heap.size w w' := by
  have bw := Gf.below1 w (.cells #[.int .i64 k, .int .i64 m, .int .i64 c] 133)
  have k0 : Rg.Bk w.heap.size [.int .i64 k, .int .i64 m, .int .i64 c] 133 (w.alloc (.cells #[.int .i64 k, .int .i64 m, .int .i64 c] 133)) := Rg.Bk.new rfl
  have HS : Hid (∀ W, Calls Tryz.prog 101 #[.int .i64 k] W fun e w' => e = .returned (.int .i64 (Gf.size k : Nat)) ∧ w' = W) := fun W => sizeOf_any k h1 h8 W
  have hz := Gf.size_range h1 h8
  clear h1 h8
  have hml : s.size ≤ 9223372036854775807 := hs
  have hbd : (s.extract 0 (Gf.size k)).data.toList = s.data.toList.take (Gf.size k) := by rw [Gf.extract_eq s 0 _ (Nat.zero_le _) (by omega)]; rfl
  have hbs : (s.extract 0 (Gf.size k)).size = Gf.size k := by rw [← Gf.len_eq, hbd, List.length_take, Gf.len_eq]; omega
  have HP : Hid (∀ W, Calls Tryz.prog 123 #[.string (s.extract 0 (Gf.size k)), .int .i64 c] W fun e w' => e = .returned (.int .i64 (Chk.packet (s.data.toList.take (Gf.size k)) c)) ∧ w' = W) := fun W => by have := packet_any (s.extract 0 (Gf.size k)) c W (by unfold maxLen; omega); rwa [hbd] at this
  generalize Chk.packet (s.data.toList.take (Gf.size k)) c = P at *
  have d1 : decide ((s.size : Int) < (Gf.size k : Int)) = false := by simp; omega
  have d2 : ((m : Int) == P) = true := beq_iff_eq.2 hp
  have HF : Hid (∀ W, Below w.heap.size w W → Calls Tryz.prog 124 #[.string (s.extract 0 (Gf.size k))] W fun e w' => e = .returned (fieldOut (Gf.unfield (s.data.toList.take (Gf.size k)))) ∧ Below w.heap.size w w') := fun W hW => by
    have h := readField_any (s.extract 0 (Gf.size k)) (by omega) (by omega) W
    rw [hbd] at h
    exact h.mono fun e w' ⟨a, b⟩ => ⟨a, hW.trans (b.mono hW.size)⟩
  clear hp hbd
  generalize Gf.unfield (s.data.toList.take (Gf.size k)) = U at *
  obtain ⟨x, e, hU⟩ : ∃ (x : ByteArray) (e : Int), fieldOut U = .tuple #[.string x, .int .i64 e] := by cases U <;> exact ⟨_, _, rfl⟩
  rw [hU] at HF ⊢
  clear hU
  generalize Gf.size k = z at *
  clear hs
  go_enter Tryz.func102, Tryz.ntmps102
  go_upto_region 5 with (go_at_call 101; refine (HS.out _).mono ?_; rintro e w2 ⟨rfl, rfl⟩)
  have c0 := k0.cell 0; have c1 := k0.cell 1; have c2 := k0.cell 2
  simp only [List.getElem?_cons_zero, List.getElem?_cons_succ] at c0 c1 c2
  generalize s.extract 0 z = bd at *
  generalize w.alloc (.cells #[.int .i64 k, .int .i64 m, .int .i64 c] 133) = W at *
  generalize hB : w.heap.size = B at *
  replace hB := Rg.hid hB
  go_region_held3 (fun w' => w'.cell? ⟨B, 0, none⟩ = some (.int .i64 k) ∧ w'.cell? ⟨B, 1, none⟩ = some (.int .i64 m) ∧ w'.cell? ⟨B, 2, none⟩ = some (.int .i64 c)) (go_keep) (first
    | (go_at_call 123; refine (HP.out _).mono ?_; rintro e w2 ⟨rfl, rfl⟩))
  go_wp2_with (go_at_call 124; refine (HF.out _ ?_).mono ?_; (first | exact bw | exact bw.drew); rintro e w3 ⟨rfl, b3⟩)
  go_ret2
  exact ⟨rfl, by rw [hB.out]; first | exact b3 | exact b3.drew⟩
end Go.Proofs.YtfiffbohhhehkaaGreat

namespace Go.Proofs.YtfiffbohhhehkaaGreat
open Go.RowKit
namespace Gf
/-- What readBody answers. -/
def bodyOut (t c k m : Nat) (r : List UInt8) : List UInt8 × Nat :=
  if r.length < size k then ([], 2)
  else if (m : Int) ≠ Chk.packet (r.take (size k)) c then ([], 4)
  else if t = 2 then (r.take (size k), 0)
  else match unfield (r.take (size k)) with
    | none => ([], 3)
    | some d => (d, 0)
theorem readBody_no {t c k m : Nat} {r d : List UInt8} {e : Nat} (ht : t = c / 64) (h : bodyOut t c k m r = (d, e)) (he : ¬ e = 0) : readBody c k m r = .error e := by
  subst ht
  unfold bodyOut at h
  unfold readBody
  split at h
  · rename_i h1; rw [if_pos h1]; cases h; rfl
  rename_i h1
  rw [if_neg h1]
  split at h
  · rename_i h2; rw [if_pos h2]; cases h; rfl
  rename_i h2
  rw [if_neg h2]
  split at h
  · cases h; exact absurd rfl he
  rename_i h3
  rw [if_neg h3]
  split at h
  · rename_i h4; rw [h4]; cases h; rfl
  · cases h; exact absurd rfl he
theorem readBody_yes {t c k m : Nat} {r d : List UInt8} (ht : t = c / 64) (h3 : t = 2 ∨ t = 3) (h : bodyOut t c k m r = (d, 0)) : readBody c k m r = .ok (⟨(t : Nat), (c / 8 % 8 : Nat), (c % 8 : Nat), (size k : Nat), d⟩, (6 + size k)) := by
  subst ht
  unfold bodyOut at h
  unfold readBody
  split at h
  · cases h
  rename_i h1
  rw [if_neg h1]
  split at h
  · cases h
  rename_i h2
  rw [if_neg h2]
  split at h
  · rename_i h4; rw [if_pos h4]; cases h; rw [h4]; rfl
  rename_i h4
  rw [if_neg h4]
  split at h
  · cases h
  · rename_i d' hd; rw [hd]; cases h; rw [show c / 64 = 3 by omega]; rfl
/-- What Read answers, as a value. -/
def resV : Res → Value
  | .ok (f, n) => .tuple #[.agg #[.int .i64 f.ty, .int .i64 f.hi, .int .i64 f.lo, .int .i64 f.sz, .string ⟨f.data.toArray⟩], .int .i64 n, .int .i64 0]
  | .error e => .tuple #[.agg #[.int .i64 0, .int .i64 0, .int .i64 0, .int .i64 0, .string ⟨#[]⟩], .int .i64 0, .int .i64 e]
def zc : List Value := [.int .i64 0, .int .i64 0, .int .i64 0, .int .i64 0, .string ⟨#[]⟩]
theorem read_nil : read [] = .error 2 := rfl
theorem read_16 {a : UInt8} {r : List UInt8} (h : ¬ a = 16) : read (a :: r) = .error 3 := by
  unfold read
  dsimp only
  rw [if_pos h]
theorem read_few {s : List UInt8} (h : s.length < 6) (h0 : 0 < s.length) (h16 : s.getD 0 0 = 16) : read s = .error 2 := by
  match s with
  | [] => cases h0
  | [a] | [a, _] | [a, _, _] | [a, _, _, _] | [a, _, _, _, _] => 
    have e : a = 16 := h16
    subst e
    rfl
  | _ :: _ :: _ :: _ :: _ :: _ :: _ => simp at h; omega
theorem list6 (s : ByteArray) (h : 6 ≤ s.size) : s.data.toList = s[0] :: s[1] :: s[2] :: s[3] :: s[4] :: s[5] :: s.data.toList.drop 6 := by
  rw [Chk.drop_cons s 5 (by omega) |>.symm, Chk.drop_cons s 4 (by omega) |>.symm, Chk.drop_cons s 3 (by omega) |>.symm, Chk.drop_cons s 2 (by omega) |>.symm, Chk.drop_cons s 1 (by omega) |>.symm, Chk.drop_cons s 0 (by omega) |>.symm]
  rfl
theorem read_six (s : ByteArray) (h : 6 ≤ s.size) (h16 : s[0] = 16) : read s.data.toList = readHead s[1].toNat s[2].toNat s[3].toNat s[4].toNat s[5].toNat (s.data.toList.drop 6) := by
  have e : read (s[0] :: s[1] :: s[2] :: s[3] :: s[4] :: s[5] :: s.data.toList.drop 6) = readHead s[1].toNat s[2].toNat s[3].toNat s[4].toNat s[5].toNat (s.data.toList.drop 6) := by
    unfold read
    dsimp only
    rw [if_neg (by rw [h16]; decide)]
  rw [← e, ← list6 s h]
end Gf
set_option maxHeartbeats 1000000 in
theorem rbody_any (s : ByteArray) (t c k m : Nat) (ht : t = 2 ∨ t = 3) (h1 : 1 ≤ k) (h8 : k ≤ 8) (hs : s.size ≤ maxLen) (w : World) :
    Calls Tryz.prog 102 #[.string s, .agg #[.int .i64 k, .int .i64 m, .int .i64 c], .int .i64 t] w fun e w' => e = .returned (.tuple #[.string ⟨(Gf.bodyOut t c k m s.data.toList).1.toArray⟩, .int .i64 ((Gf.bodyOut t c k m s.data.toList).2 : Nat)]) ∧ Below w.heap.size w w' := by
  unfold Gf.bodyOut
  rw [Gf.len_eq]
  by_cases a : s.size < Gf.size k
  · rw [if_pos a]
    exact readBody_short s k m c t a h1 h8 hs w
  rw [if_neg a]
  by_cases b : (m : Int) ≠ Chk.packet (s.data.toList.take (Gf.size k)) c
  · rw [if_pos b]
    exact readBody_sum s k m c t a b h1 h8 hs w
  rw [if_neg b]
  have b := Decidable.not_not.1 b
  rcases ht with rfl | rfl
  · rw [if_pos rfl]
    exact readBody_long s k m c a b h1 h8 hs w
  · rw [if_neg (by decide)]
    have h := readBody_field s k m c a b h1 h8 hs w
    cases hu : Gf.unfield (s.data.toList.take (Gf.size k)) with
    | none => rw [hu] at h; exact h
    | some d => rw [hu] at h; exact h

set_option maxHeartbeats 1000000 in
theorem read_empty (w : World) :
    Calls Tryz.prog 77 #[.string ⟨#[]⟩] w fun e w' => e = .returned (Gf.resV (.error 2)) ∧ Below w.heap.size w w' := by
  have bw := Gf.below1 w (.cells #[.int .i64 0, .int .i64 0, .int .i64 0, .int .i64 0, .string ⟨#[]⟩] 80)
  have k0 : Rg.Bk w.heap.size Gf.zc 80 (w.alloc (.cells #[.int .i64 0, .int .i64 0, .int .i64 0, .int .i64 0, .string ⟨#[]⟩] 80)) := Rg.Bk.new rfl
  have cE := k0.cell
  clear cE
  go_enter Tryz.func77, Tryz.ntmps77
  go_wp2
  exact bodyPost_ret (v := Gf.resV (.error 2)) (by simp [results, Tryz.results77, go_sem, Gf.resV]) rfl ⟨rfl, bw⟩
theorem Gf.ne_nil {s : ByteArray} (h : 0 < s.size) : (s.toList == []) = false := by
  rw [tl_eq]; refine beq_eq_false_iff_ne.2 fun e => ?_
  rw [← Gf.len_eq, e] at h
  cases h
set_option maxHeartbeats 1000000 in
theorem read_form (s : ByteArray) (h0 : 0 < s.size) (h : ¬ s[0].toNat = 16) (hs : s.size ≤ maxLen) (w : World) :
    Calls Tryz.prog 77 #[.string s] w fun e w' => e = .returned (Gf.resV (.error 3)) ∧ Below w.heap.size w w' := by
  have bw := Gf.below1 w (.cells #[.int .i64 0, .int .i64 0, .int .i64 0, .int .i64 0, .string ⟨#[]⟩] 80)
  have k0 : Rg.Bk w.heap.size Gf.zc 80 (w.alloc (.cells #[.int .i64 0, .int .i64 0, .int .i64 0, .int .i64 0, .string ⟨#[]⟩] 80)) := Rg.Bk.new rfl
  have cE := k0.cell
  clear cE
  have hml : s.size ≤ 9223372036854775807 := hs
  have e0 := Gf.ne_nil h0
  have d1 : ((s[0].toNat : Int) == 16) = false := beq_eq_false_iff_ne.2 (by omega)
  have hb := UInt8.toNat_lt s[0]
  clear hs
  go_enter Tryz.func77, Tryz.ntmps77
  go_wp2
  exact bodyPost_ret (v := Gf.resV (.error 3)) (by simp [results, Tryz.results77, go_sem, Gf.resV]) rfl ⟨rfl, bw⟩
set_option maxHeartbeats 1000000 in
theorem read_short (s : ByteArray) (h0 : 0 < s.size) (h : s[0].toNat = 16) (h6 : s.size < 6) (w : World) :
    Calls Tryz.prog 77 #[.string s] w fun e w' => e = .returned (Gf.resV (.error 2)) ∧ Below w.heap.size w w' := by
  have bw := Gf.below1 w (.cells #[.int .i64 0, .int .i64 0, .int .i64 0, .int .i64 0, .string ⟨#[]⟩] 80)
  have k0 : Rg.Bk w.heap.size Gf.zc 80 (w.alloc (.cells #[.int .i64 0, .int .i64 0, .int .i64 0, .int .i64 0, .string ⟨#[]⟩] 80)) := Rg.Bk.new rfl
  have cE := k0.cell
  clear cE
  have e0 := Gf.ne_nil h0
  have d1 : ((s[0].toNat : Int) == 16) = true := by rw [h]; rfl
  have d2 : decide ((s.size : Int) < 6) = true := by simp; omega
  go_enter Tryz.func77, Tryz.ntmps77
  go_wp2
  exact bodyPost_ret (v := Gf.resV (.error 2)) (by simp [results, Tryz.results77, go_sem, Gf.resV]) rfl ⟨rfl, bw⟩
end Go.Proofs.YtfiffbohhhehkaaGreat

namespace Go.Proofs.YtfiffbohhhehkaaGreat
open Go.RowKit
namespace Gf
theorem sum_or {l h : Nat} (hl : l < 256) (hh : h < 256) : bits .or .i64 (l : Int) ((h : Int) * 256) = ((l + 256 * h : Nat) : Int) := by
  have e := Bit.or_i64 l (h * 256) (by omega) (by omega)
  have a : l ||| h * 256 = l + 256 * h := by
    have := Nat.two_pow_add_eq_or_of_lt (i := 8) (b := l) (by omega) h
    rw [Nat.or_comm, Nat.mul_comm h 256]; rw [show l + 256 * h = 2 ^ 8 * h + l by omega]; exact this.symm
  rw [a] at e
  rw [← e]; congr 1
theorem head_list (s : ByteArray) (h6 : 6 ≤ s.size) : (s.extract 0 6).data.toList = [s[0], s[1], s[2], s[3], s[4], s[5]] := by
  rw [extract_eq s 0 6 (by omega) h6]
  have e := list6 s h6
  generalize s.data.toList.drop 6 = r at e
  rw [e]
  rfl
theorem head_both {k l h c x : UInt8} : head k.toNat (l.toNat + 256 * h.toNat) c.toNat = [16, k, l, h, c, x] ↔ k.toNat ^^^ l.toNat ^^^ h.toNat ^^^ c.toNat = x.toNat := by
  constructor
  · intro e
    have hl := UInt8.toNat_lt l
    unfold head at e
    rw [show (l.toNat + 256 * h.toNat) % 256 = l.toNat by omega, show (l.toNat + 256 * h.toNat) / 256 = h.toNat by omega] at e
    have e5 : UInt8.ofNat (k.toNat ^^^ l.toNat ^^^ h.toNat ^^^ c.toNat) = x := by
      have := congrArg (fun y : List UInt8 => y.getD 5 0) e
      exact this
    rw [← e5, ofNat_toNat (xor_byte _ _ _ _ (UInt8.toNat_lt k) hl (UInt8.toNat_lt h) (UInt8.toNat_lt c))]
  · exact head_bytes
theorem head_dec (s : ByteArray) (h6 : 6 ≤ s.size) (h16 : s[0].toNat = 16) : ((⟨(head s[1].toNat (s[2].toNat + 256 * s[3].toNat) s[4].toNat).toArray⟩ : ByteArray).toList == (s.extract 0 6).toList) = decide (s[1].toNat ^^^ s[2].toNat ^^^ s[3].toNat ^^^ s[4].toNat = s[5].toNat) := by
  have h0 : s[0] = 16 := UInt8.toNat_inj.1 h16
  rw [tl_eq, tl_eq, head_list s h6, h0, Bool.eq_iff_iff, beq_iff_eq, decide_eq_true_iff]
  exact head_both
theorem hi_and (c : Nat) : bits .and .i64 ((c : Int) / 8) 7 = ((c / 8 % 8 : Nat) : Int) := by
  have := Bit.and_i64_mask ((c : Int) / 8) 3 7 (by decide) (by decide)
  exact this.trans (by omega)
theorem lo_and (c : Nat) : bits .and .i64 (c : Int) 7 = ((c % 8 : Nat) : Int) := by
  have := Bit.and_i64_mask (c : Int) 3 7 (by decide) (by decide)
  exact this.trans (by omega)
end Gf
end Go.Proofs.YtfiffbohhhehkaaGreat
