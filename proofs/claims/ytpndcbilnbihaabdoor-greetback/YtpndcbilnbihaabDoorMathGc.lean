/-
  Layer 9: what a caller says, in plain mathematics.
-/
import Derived.Test.YtpndcbilnbihaabDoorMathGr
import Derived.Test.YtpndcbilnbihaabDoorNam2
import Derived.Lib.IndexMore
import Derived.Lib.ItoaNum
namespace Go.Proofs.YtpndcbilnbihaabDoor
namespace Gr
def sep : List UInt8 := [32, 45, 81]
/-- P9.4 -/
def callT (y : ByteArray) (n : Int) : ByteArray × Int :=
  if Nam.system y.data.toList = false then (⟨#[]⟩, 11)
  else if ¬ (0 ≤ n ∧ n ≤ 1099511627776) then (⟨#[]⟩, 1)
  else (⟨#[83]⟩ ++ y ++ ⟨#[32, 45, 81]⟩ ++ ⟨(Lib.itoa n).toArray⟩, 0)
def pcl (l : List UInt8) : List UInt8 × Nat × Nat :=
  if Lib.hasPrefix l [83] = true ∧ Nam.system (Lib.cut (l.drop 1) sep).1 = true ∧ (Oct.number (Lib.cut (l.drop 1) sep).2.1).2 = 0
  then ((Lib.cut (l.drop 1) sep).1, (Oct.number (Lib.cut (l.drop 1) sep).2.1).1, 0) else ([], 0, 3)
theorem occ_blank {r : List UInt8} {i : Nat} (h : Lib.occAt r sep i = true) : r[i]? = some 32 := by
  unfold Lib.occAt at h
  cases hd : r.drop i with
  | nil => rw [hd] at h; simp [sep] at h
  | cons c t =>
    rw [hd] at h
    have hc : c = 32 := by
      simp only [sep, List.isPrefixOf, Bool.and_eq_true, beq_iff_eq] at h
      exact h.1.symm
    have : (r.drop i)[0]? = some c := by rw [hd]; rfl
    rw [List.getElem?_drop, Nat.add_zero] at this
    rw [this, hc]
theorem sys_blank {a : List UInt8} (h : (32 : UInt8) ∈ a) : Nam.system a = false := Nam.system_not h (by decide)
theorem num_nil : Oct.number [] = (0, 3) := by decide
theorem cut_none {r : List UInt8} (h : ∀ i : Nat, r[i]? ≠ some 32) : Lib.cut r sep = (r, [], false) := by
  unfold Lib.cut
  rcases Lib.index_spec r sep with ⟨h1, _⟩ | ⟨i, _, _, h3, _⟩
  · rw [h1]; rfl
  · exact absurd (occ_blank h3) (h i)
theorem cut_at {a b : List UInt8} (h : ∀ c ∈ a, c ≠ 32) : Lib.cut (a ++ sep ++ b) sep = (a, b, true) := by
  have hi : Lib.index (a ++ sep ++ b) sep = a.length := by
    refine Lib.index_first (by simp) ?_ ?_
    · unfold Lib.occAt
      rw [List.append_assoc, List.drop_left]
      simp [sep, List.isPrefixOf]
    · intro j hj
      cases ho : Lib.occAt (a ++ sep ++ b) sep j with
      | false => rfl
      | true =>
        have := occ_blank ho
        rw [List.append_assoc, List.getElem?_append_left hj, List.getElem?_eq_getElem hj] at this
        exact absurd (Option.some.inj this) (h _ (List.getElem_mem hj))
  unfold Lib.cut
  rw [hi, if_pos (by omega), Int.toNat_natCast]
  refine Prod.ext ?_ (Prod.ext ?_ rfl)
  · show (a ++ sep ++ b).take a.length = a
    rw [List.append_assoc, List.take_left]
  · show (a ++ sep ++ b).drop (a.length + sep.length) = b
    rw [← List.length_append, List.drop_left]
theorem pcl_head {l : List UInt8} (h : Lib.hasPrefix l [83] = false) : pcl l = ([], 0, 3) := by unfold pcl; rw [if_neg (by simp [h])]
theorem pcl_none {r : List UInt8} (h : ∀ i : Nat, r[i]? ≠ some 32) : pcl (83 :: r) = ([], 0, 3) := by
  unfold pcl
  rw [if_neg]
  rintro ⟨_, _, h3⟩
  rw [show (83 :: r).drop 1 = r from rfl, cut_none h] at h3
  rw [num_nil] at h3
  exact absurd h3 (by decide)
theorem pcl_yes {a b : List UInt8} (h : ∀ c ∈ a, c ≠ 32) : pcl (83 :: (a ++ sep ++ b)) = if Nam.system a = true ∧ (Oct.number b).2 = 0 then (a, (Oct.number b).1, 0) else ([], 0, 3) := by
  unfold pcl
  have hp : Lib.hasPrefix (83 :: (a ++ sep ++ b)) [83] = true := by simp [Lib.hasPrefix, List.isPrefixOf]
  rw [show (83 :: (a ++ sep ++ b)).drop 1 = a ++ sep ++ b from rfl, cut_at h, hp]
  simp only [true_and]
/-- the first blank does not begin what parts -/
theorem pcl_other {a b : List UInt8} (_h : ∀ c ∈ a, c ≠ 32) (hb : b[0]? = some 32) (ho : sep.isPrefixOf b = false) : pcl (83 :: (a ++ b)) = ([], 0, 3) := by
  unfold pcl
  rw [if_neg]
  rintro ⟨_, h2, h3⟩
  rw [show (83 :: (a ++ b)).drop 1 = a ++ b from rfl] at h2 h3
  unfold Lib.cut at h2 h3
  rcases Lib.index_spec (a ++ b) sep with ⟨h1, _⟩ | ⟨i, h1, hi, h4, _⟩
  · rw [h1] at h3
    rw [if_neg (by decide), num_nil] at h3
    exact absurd h3 (by decide)
  · rw [h1, if_pos (by omega), Int.toNat_natCast] at h2
    have hlt : ¬ i < a.length := by
      intro hlt
      have := occ_blank h4
      rw [List.getElem?_append_left hlt, List.getElem?_eq_getElem hlt] at this
      exact _h _ (List.getElem_mem hlt) (Option.some.inj this)
    have hne : i ≠ a.length := by
      rintro rfl
      unfold Lib.occAt at h4
      rw [List.drop_left, ho] at h4
      cases h4
    have hm : (32 : UInt8) ∈ (a ++ b).take i := by
      cases b with
      | nil => simp at hb
      | cons c t =>
        have hc : c = 32 := by simpa using hb
        subst hc
        rw [List.mem_take_iff_getElem]
        refine ⟨a.length, by simp at hi ⊢; omega, by simp⟩
    rw [sys_blank hm] at h2
    cases h2
/-- a text whose first blank stands at k -/
theorem at_blank (s : ByteArray) (k : Nat) (hk : k < s.size) (h0 : 0 < s.size) (hb : s[k] = 32) (hno : ∀ (j : Nat) (_ : j < k) (h : j < s.size), s[j] ≠ 32) (hS : s[0] = 83) :
    s.data.toList = 83 :: ((s.data.toList.take k).drop 1 ++ s.data.toList.drop k) ∧ (∀ c ∈ (s.data.toList.take k).drop 1, c ≠ 32) ∧ (s.data.toList.drop k)[0]? = some 32 := by
  have hk0 : 0 < k := by
    rcases Nat.eq_zero_or_pos k with rfl | h
    · rw [hS] at hb; exact absurd hb (by decide)
    · exact h
  have hl : s.data.toList.length = s.size := by rw [Array.length_toList]; rfl
  refine ⟨?_, ?_, ?_⟩
  · have e1 : s.data.toList.take k = 83 :: (s.data.toList.take k).drop 1 := by
      cases ht : s.data.toList.take k with
      | nil => have := congrArg List.length ht; rw [List.length_take, hl, List.length_nil] at this; omega
      | cons c t =>
        have : (s.data.toList.take k)[0]? = some c := by rw [ht]; rfl
        rw [List.getElem?_take_of_lt hk0, List.getElem?_eq_getElem (by omega)] at this
        have hc : s.data.toList[0] = c := Option.some.inj this
        have hc2 : s[0] = c := hc
        rw [← hc2, hS]; rfl
    conv => lhs; rw [← List.take_append_drop k s.data.toList, e1]
    rfl
  · intro c hc
    have hm := List.mem_of_mem_drop hc
    rw [List.mem_take_iff_getElem] at hm
    obtain ⟨j, hj, rfl⟩ := hm
    exact hno j (by omega) (by omega)
  · rw [drop_at s k hk, hb]; rfl
theorem pcl_short (s : ByteArray) (k : Nat) (hk : k < s.size) (h0 : 0 < s.size) (hb : s[k] = 32) (hno : ∀ (j : Nat) (_ : j < k) (h : j < s.size), s[j] ≠ 32) (h4 : s.size < k + 4) : pcl s.data.toList = ([], 0, 3) := by
  by_cases hS : s[0] = 83
  · obtain ⟨e, ha, hb0⟩ := at_blank s k hk h0 hb hno hS
    cases ho : sep.isPrefixOf (s.data.toList.drop k) with
    | false => rw [e]; exact pcl_other ha hb0 ho
    | true =>
      have hp : sep <+: s.data.toList.drop k := List.isPrefixOf_iff_prefix.1 ho
      obtain ⟨t, ht⟩ := hp
      have hlen : (s.data.toList.drop k).length = s.size - k := by rw [List.length_drop, Array.length_toList]; rfl
      have ht0 : t = [] := by
        have := congrArg List.length ht
        rw [hlen, List.length_append] at this
        have h3 : sep.length = 3 := rfl
        exact List.eq_nil_of_length_eq_zero (by omega)
      rw [e, ← ht, ← List.append_assoc, pcl_yes ha, ht0, if_neg (by rw [num_nil]; rintro ⟨_, h⟩; exact absurd h (by decide))]
  · exact pcl_head (by
      have := drop_at s 0 h0
      rw [List.drop_zero] at this
      rw [this]
      simp only [Lib.hasPrefix, List.isPrefixOf, Bool.and_true, beq_eq_false_iff_ne]
      exact fun e => hS e.symm)
theorem pcl_nohead (s : ByteArray) (h0 : 0 < s.size) (hS : ¬ s[0] = 83) : pcl s.data.toList = ([], 0, 3) := pcl_head (by
      have := drop_at s 0 h0
      rw [List.drop_zero] at this
      rw [this]
      simp only [Lib.hasPrefix, List.isPrefixOf, Bool.and_true, beq_eq_false_iff_ne]
      exact fun e => hS e.symm)
theorem ext3 (s : ByteArray) (k : Nat) : (s.extract k (k + 3)).data.toList = (s.data.toList.drop k).take 3 := by
  rw [ByteArray.data_extract, Array.toList_extract]
  show ((s.data.toList.drop k).take (k + 3 - k)) = _
  rw [show k + 3 - k = 3 by omega]
theorem ext1 (s : ByteArray) (k : Nat) : (s.extract 1 k).data.toList = (s.data.toList.take k).drop 1 := by
  rw [ByteArray.data_extract, Array.toList_extract]
  show ((s.data.toList.drop 1).take (k - 1)) = _
  rw [List.drop_take]
theorem pcl_parts (s : ByteArray) (k : Nat) (hk : k < s.size) (h0 : 0 < s.size) (hb : s[k] = 32) (hno : ∀ (j : Nat) (_ : j < k) (h : j < s.size), s[j] ≠ 32) (hS : s[0] = 83) (hx : ¬ (s.extract k (k + 3)).data.toList = sep) : pcl s.data.toList = ([], 0, 3) := by
  obtain ⟨e, ha, hb0⟩ := at_blank s k hk h0 hb hno hS
  rw [ext3] at hx
  rw [e]
  refine pcl_other ha hb0 ?_
  cases ho : sep.isPrefixOf (s.data.toList.drop k) with
  | false => rfl
  | true =>
    obtain ⟨t, ht⟩ := List.isPrefixOf_iff_prefix.1 ho
    exact absurd (by rw [← ht]; rfl) hx
theorem pcl_got (s : ByteArray) (k : Nat) (hk : k < s.size) (h0 : 0 < s.size) (hb : s[k] = 32) (hno : ∀ (j : Nat) (_ : j < k) (h : j < s.size), s[j] ≠ 32) (hS : s[0] = 83) (hx : (s.extract k (k + 3)).data.toList = sep) :
    pcl s.data.toList = if Nam.system (s.extract 1 k).data.toList = true ∧ (Oct.number (s.data.toList.drop (k + 3))).2 = 0 then ((s.extract 1 k).data.toList, (Oct.number (s.data.toList.drop (k + 3))).1, 0) else ([], 0, 3) := by
  obtain ⟨e, ha, _⟩ := at_blank s k hk h0 hb hno hS
  rw [ext3] at hx
  have e2 : s.data.toList.drop k = sep ++ s.data.toList.drop (k + 3) := by
    rw [← hx, ← List.drop_drop, List.take_append_drop]
  rw [ext1]
  conv => lhs; rw [e, e2, ← List.append_assoc]
  exact pcl_yes ha
theorem pcl_end (s : ByteArray) (hno : ∀ (j : Nat) (h : j < s.size), s[j] ≠ 32) : pcl s.data.toList = ([], 0, 3) := by
  by_cases h0 : 0 < s.size
  · by_cases hS : s[0] = 83
    · have := drop_at s 0 h0
      rw [List.drop_zero, hS] at this
      rw [this]
      refine pcl_none fun i hi => ?_
      rw [List.getElem?_drop] at hi
      by_cases hl : 0 + 1 + i < s.size
      · rw [List.getElem?_eq_getElem (by rw [Array.length_toList]; exact hl)] at hi
        exact hno _ hl (Option.some.inj hi)
      · rw [List.getElem?_eq_none (by rw [Array.length_toList]; exact Nat.le_of_not_lt hl)] at hi; cases hi
    · exact pcl_nohead s h0 hS
  · refine pcl_head ?_
    have := drop_end s 0 h0
    rw [List.drop_zero] at this
    rw [this]; rfl
end Gr
end Go.Proofs.YtpndcbilnbihaabDoor
