/-
  Walks of the document's layer 11: what a short packet's field says.
-/
import Derived.Test.YtpgjdobgfhhbiaaGw6
namespace Go.Proofs.Ytpgjdobgfhhbiaa
open Go.RowKit
namespace Gf
theorem from_two {b : List UInt8} (h : from_ b = 2) : 128 ≤ (b.getD 0 0).toNat ∧ miss b = (b.getD 0 0).toNat - 128 + 128 * (b.getD 1 0).toNat := by
  unfold from_ at h
  unfold miss
  split at h
  · rename_i h1; exact ⟨h1, by rw [if_pos h1]⟩
  · cases h
theorem from_one {b : List UInt8} (h : from_ b = 1) : (b.getD 0 0).toNat < 128 ∧ miss b = (b.getD 0 0).toNat := by
  unfold from_ at h
  unfold miss
  split at h
  · cases h
  · rename_i h1; exact ⟨by omega, by rw [if_neg h1]⟩
theorem field_head (d : List UInt8) (z n : Nat) (h : z - d.length = n) (hn : n < 128) : (field d z).getD 0 0 = UInt8.ofNat n := by
  unfold field cnt
  rw [h, if_pos hn]
  rfl
theorem un_two {b : List UInt8} (hF : from_ b = 2) (hM : miss b < 128) : unfield b = none := by
  by_cases h1 : miss b < from_ b
  · exact un_low h1
  by_cases h2 : b.length < miss b
  · exact un_high h2
  refine un_ne h1 h2 fun e => ?_
  have hl := pick_len h1 h2
  have h3 := field_head (pick b) b.length (miss b) (by omega) hM
  rw [e] at h3
  have h4 := (from_two hF).1
  rw [h3, ofNat_toNat (by omega)] at h4
  omega
theorem cnt_take {b : List UInt8} (h1 : from_ b ≤ miss b) (h2 : miss b ≤ b.length) (h3 : from_ b = 2 → 128 ≤ miss b) : cnt (miss b) = b.take (from_ b) := by
  have hf := from_pos b
  have hh : from_ b = 1 ∨ from_ b = 2 := by omega
  rcases hh with h | h
  · obtain ⟨a1, a2⟩ := from_one h
    rw [h]
    unfold cnt
    rw [if_pos (by omega)]
    match b, a2 with
    | [], a2 => simp at h2; omega
    | x :: r, a2 =>
      have : miss (x :: r) = x.toNat := a2
      rw [this, byte_eq]
      rfl
  · obtain ⟨a1, a2⟩ := from_two h
    have h3 := h3 h
    rw [h]
    unfold cnt
    rw [if_neg (by omega)]
    match b, a1, a2, h2 with
    | [], _, _, h2 => simp at h2; omega
    | [x], _, _, h2 => simp at h2; omega
    | x :: y :: r, a1, a2, _ =>
      have e : miss (x :: y :: r) = x.toNat - 128 + 128 * y.toNat := a2
      have hx := UInt8.toNat_lt x
      have hx1 : 128 ≤ x.toNat := a1
      rw [e, show (x.toNat - 128 + 128 * y.toNat) % 128 + 128 = x.toNat by omega, show (x.toNat - 128 + 128 * y.toNat) / 128 = y.toNat by omega, byte_eq, byte_eq]
      rfl
theorem un_zeros {b : List UInt8} (h1 : from_ b ≤ miss b) (h2 : miss b ≤ b.length) (h3 : from_ b = 2 → 128 ≤ miss b) : field (pick b) b.length = b ↔ b.drop (from_ b + b.length - miss b) = List.replicate (miss b - from_ b) 0 := by
  have hl := pick_len (b := b) (by omega) (by omega)
  have hc := cnt_take h1 h2 h3
  have hcl : (cnt (miss b)).length = from_ b := by rw [hc, List.length_take]; have := from_pos b; omega
  have e1 : field (pick b) b.length = b.take (from_ b) ++ (pick b ++ List.replicate (miss b - from_ b) 0) := by
    unfold field
    rw [hl, show b.length - (b.length - miss b) = miss b by omega, hcl, hc]
  have e2 : b = b.take (from_ b) ++ (pick b ++ b.drop (from_ b + b.length - miss b)) := by
    have a : pick b ++ b.drop (from_ b + b.length - miss b) = b.drop (from_ b) := by
      unfold pick
      rw [show from_ b + b.length - miss b = from_ b + (b.length - miss b) by omega, ← List.drop_drop, List.take_append_drop]
    rw [a, List.take_append_drop]
  constructor
  · intro h
    rw [e1] at h
    have h' := h.trans e2
    exact (List.append_cancel_left (List.append_cancel_left h')).symm
  · intro h
    rw [e1, ← h]
    exact e2.symm
theorem zeros_of {l : List UInt8} {E : Nat} (h : ∀ j, E ≤ j → j < l.length → l.getD j 0 = 0) (hE : E ≤ l.length) : l.drop E = List.replicate (l.length - E) 0 := by
  apply List.ext_getElem
  · rw [List.length_drop, List.length_replicate]
  · intro i h1 h2
    rw [List.getElem_drop, List.getElem_replicate]
    rw [List.length_drop] at h1
    have := h (E + i) (by omega) (by omega)
    rw [List.getD_eq_getElem?_getD, List.getElem?_eq_getElem (by omega)] at this
    exact this
theorem zeros_no {l : List UInt8} {E j n : Nat} (h1 : E ≤ j) (h3 : ¬ l.getD j 0 = 0) : ¬ l.drop E = List.replicate n 0 := by
  intro e
  apply h3
  have h4 : (l.drop E).getD (j - E) 0 = l.getD j 0 := by
    rw [List.getD_eq_getElem?_getD, List.getD_eq_getElem?_getD, List.getElem?_drop, show E + (j - E) = j by omega]
  rw [← h4, e, List.getD_eq_getElem?_getD, List.getElem?_replicate]
  split <;> rfl
end Gf
/-- What the document's unfield answers. -/
def unfieldOut : Option (List UInt8) → Value
  | none => .tuple #[.string ⟨#[]⟩, .bool false]
  | some d => .tuple #[.string ⟨d.toArray⟩, .bool true]
set_option maxHeartbeats 2000000 in
set_option maxRecDepth 100000 in
theorem unfield_one (s : ByteArray) (h2 : 2 ≤ s.size) (hz : s.size ≤ 4096) (hb : s[0].toNat < 128) (w : World) :
    Calls Try.prog 33 #[.string s] w fun e w' => e = .returned (unfieldOut (Gf.unfield s.data.toList)) ∧ w = w' := by
  have hF : Gf.from_ s.data.toList = 1 := by unfold Gf.from_; rw [Gf.getD_at s 0 (by omega), if_neg (by omega)]
  have hM : Gf.miss s.data.toList = s[0].toNat := by unfold Gf.miss; rw [Gf.getD_at s 0 (by omega), if_neg (by omega)]
  have hd1 : decide ((127 : Int) < (s[0].toNat : Int)) = false := by simp; omega
  have hlow : Hid (Gf.miss s.data.toList < 1 → Gf.unfield s.data.toList = none) := fun h => Gf.un_low (by rw [hF]; exact h)
  have hhigh : Hid (s.size < Gf.miss s.data.toList → Gf.unfield s.data.toList = none) := fun h => Gf.un_high (by rw [Gf.len_eq]; exact h)
  have heq : Hid (1 ≤ Gf.miss s.data.toList → Gf.miss s.data.toList ≤ s.size → (s.data.toList.drop (1 + s.size - Gf.miss s.data.toList) = List.replicate (Gf.miss s.data.toList - 1) 0 → Gf.unfield s.data.toList = some (Gf.pick s.data.toList))) := fun h h' e => by
    have hh := Gf.un_zeros (b := s.data.toList) (by rw [hF]; omega) (by rw [Gf.len_eq]; exact h') (fun h2 => by rw [hF] at h2; cases h2)
    rw [hF, Gf.len_eq] at hh
    exact Gf.un_eq (by rw [hF]; omega) (by rw [Gf.len_eq]; omega) (by rw [Gf.len_eq]; exact hh.2 e)
  have hne : Hid (1 ≤ Gf.miss s.data.toList → Gf.miss s.data.toList ≤ s.size → (¬ s.data.toList.drop (1 + s.size - Gf.miss s.data.toList) = List.replicate (Gf.miss s.data.toList - 1) 0 → Gf.unfield s.data.toList = none)) := fun h h' e => by
    have hh := Gf.un_zeros (b := s.data.toList) (by rw [hF]; omega) (by rw [Gf.len_eq]; exact h') (fun h2 => by rw [hF] at h2; cases h2)
    rw [hF, Gf.len_eq] at hh
    exact Gf.un_ne (by rw [hF]; omega) (by rw [Gf.len_eq]; omega) (by rw [Gf.len_eq]; exact fun q => e (hh.1 q))
  have hpk : Hid (Gf.pick s.data.toList = (s.data.toList.drop 1).take (s.size - Gf.miss s.data.toList)) := by show _ = _; unfold Gf.pick; rw [hF, Gf.len_eq]
  rw [hM] at hlow hhigh heq hne hpk
  clear hF hM
  go_enter Try.func33, Try.ntmps33
  go_upto_region 7 with fail
  clear hd1
  generalize s[0].toNat = M at *
  by_cases a1 : M < 1
  · have hr : Hid (Gf.unfield s.data.toList = none) := hlow.out (by omega)
    have d1 : decide ((M : Int) < 1) = true := by simp; omega
    clear hlow hhigh heq hne
    go_wp2
    go_ret2
    exact ⟨by rw [hr.out]; rfl, rfl⟩
  have d1 : decide ((M : Int) < 1) = false := by simp; omega
  by_cases a2 : s.size < M
  · have hr : Hid (Gf.unfield s.data.toList = none) := hhigh.out a2
    have d2 : decide ((s.size : Int) < (M : Int)) = true := by simp; omega
    clear hlow hhigh heq hne
    go_wp2
    go_ret2
    exact ⟨by rw [hr.out]; rfl, rfl⟩
  have d2 : decide ((s.size : Int) < (M : Int)) = false := by simp; omega
  obtain ⟨E, hE⟩ : ∃ E, 1 + s.size - M = E := ⟨_, rfl⟩
  have hEi : (1 : Int) + (s.size : Int) - (M : Int) = (E : Int) := by omega
  have hE1 : 1 ≤ E := by omega
  have hE2 : E ≤ s.size := by omega
  have hE1i : (1 : Int) ≤ (E : Int) := by omega
  have hE2i : (E : Int) ≤ (s.size : Int) := by omega
  have d3 : decide ((s.size : Int) < (E : Int)) = false := by simp; omega
  have hEd : E - 1 = s.size - M := by omega
  have heq := heq.out (by omega) (by omega)
  have hne := hne.out (by omega) (by omega)
  rw [hE] at heq hne
  have hMF : M - 1 = s.size - E := by omega
  rw [hMF] at heq hne
  replace heq := Rg.hid heq
  replace hne := Rg.hid hne
  have hDr : Hid ((s.extract 1 E) = ⟨(Gf.pick s.data.toList).toArray⟩) := by
    show _ = _
    rw [hpk.out, ← hEd, ← Gf.extract_eq s 1 E hE1 hE2]
  replace hE := Rg.hid hE
  clear hlow hhigh hpk hMF hEd
  go_wp2
  go_loopw [7] (fun i wr => ∃ k : Nat, E ≤ k ∧ k ≤ s.size ∧ i = .int .i64 k ∧ Hid (∀ j, E ≤ j → j < k → s.data.toList.getD j 0 = 0) ∧ w = wr) (fun i _ => s.size - (intOf i).toNat)
  case atStart => exact ⟨E, Nat.le_refl _, hE2, rfl, fun j h1 h2 => absurd h1 (by omega), rfl⟩
  case round =>
    obtain ⟨k, hk1, hk2, rfl, hz0, rfl⟩ := hrel
    by_cases hlt : k < s.size
    · have hki : (k : Int) < (s.size : Int) := by omega
      have hk0 : (0 : Int) ≤ (k : Int) := by omega
      have hgd : s.data.toList.getD k 0 = s[k] := Gf.getD_at s k hlt
      have hb := UInt8.toNat_lt s[k]
      by_cases he : s[k].toNat = 0
      · have dd : ((s[k].toNat : Int) == 0) = true := beq_iff_eq.2 (by omega)
        have he' : s[k] = 0 := UInt8.toNat_inj.1 he
        have hz1 : Hid (∀ j, E ≤ j → j < k + 1 → s.data.toList.getD j 0 = 0) := fun j h1 h2 => by
          rcases Nat.lt_or_ge j k with h | h
          · exact hz0.out j h1 h
          · obtain rfl : j = k := by omega
            rw [hgd]; exact he'
        clear he' hgd heq hne hz0
        go_wp2
        go_roundw
        case rel => exact ⟨k + 1, by omega, by omega, by go_num, hz1, trivial⟩
        case measure => simp [intOf]; omega
      · have dd : ((s[k].toNat : Int) == 0) = false := beq_eq_false_iff_ne.2 (by omega)
        have hr : Hid (Gf.unfield s.data.toList = none) := hne.out (Gf.zeros_no hk1 (by rw [hgd]; exact fun e => he (by rw [e]; rfl)))
        clear hgd heq hne hz0
        go_wp2
        go_ret2
        exact ⟨by rw [hr.out]; rfl, rfl⟩
    · have dd : decide ((k : Int) < (s.size : Int)) = false := by simp; omega
      have hr : Hid (Gf.unfield s.data.toList = some (Gf.pick s.data.toList)) := heq.out (by
        have h := Gf.zeros_of (l := s.data.toList) (E := E) (fun j h1 h2 => hz0.out j h1 (by rw [Gf.len_eq] at h2; omega)) (by rw [Gf.len_eq]; exact hE2)
        rw [Gf.len_eq] at h
        exact h)
      clear heq hne hz0
      go_wp2
      go_ret2
      exact ⟨by rw [hr.out, hDr.out]; rfl, rfl⟩
set_option maxHeartbeats 2000000 in
set_option maxRecDepth 100000 in
theorem unfield_two (s : ByteArray) (h2 : 2 ≤ s.size) (hz : s.size ≤ 4096) (hb : ¬ s[0].toNat < 128) (w : World) :
    Calls Try.prog 33 #[.string s] w fun e w' => e = .returned (unfieldOut (Gf.unfield s.data.toList)) ∧ w = w' := by
  have hF : Gf.from_ s.data.toList = 2 := by unfold Gf.from_; rw [Gf.getD_at s 0 (by omega), if_pos (by omega)]
  have hM : Gf.miss s.data.toList = s[0].toNat - 128 + 128 * s[1].toNat := by unfold Gf.miss; rw [Gf.getD_at s 0 (by omega), Gf.getD_at s 1 (by omega), if_pos (by omega)]
  have hd1 : decide ((127 : Int) < (s[0].toNat : Int)) = true := by simp; omega
  have hml := Gf.miss_lt s.data.toList
  have htwo : Hid (Gf.miss s.data.toList < 128 → Gf.unfield s.data.toList = none) := fun h => Gf.un_two hF h
  have hlow : Hid (Gf.miss s.data.toList < 2 → Gf.unfield s.data.toList = none) := fun h => Gf.un_low (by rw [hF]; exact h)
  have hhigh : Hid (s.size < Gf.miss s.data.toList → Gf.unfield s.data.toList = none) := fun h => Gf.un_high (by rw [Gf.len_eq]; exact h)
  have heq : Hid (128 ≤ Gf.miss s.data.toList → Gf.miss s.data.toList ≤ s.size → (s.data.toList.drop (2 + s.size - Gf.miss s.data.toList) = List.replicate (Gf.miss s.data.toList - 2) 0 → Gf.unfield s.data.toList = some (Gf.pick s.data.toList))) := fun h h' e => by
    have hh := Gf.un_zeros (b := s.data.toList) (by rw [hF]; omega) (by rw [Gf.len_eq]; exact h') (fun _ => by omega)
    rw [hF, Gf.len_eq] at hh
    exact Gf.un_eq (by rw [hF]; omega) (by rw [Gf.len_eq]; omega) (by rw [Gf.len_eq]; exact hh.2 e)
  have hne : Hid (128 ≤ Gf.miss s.data.toList → Gf.miss s.data.toList ≤ s.size → (¬ s.data.toList.drop (2 + s.size - Gf.miss s.data.toList) = List.replicate (Gf.miss s.data.toList - 2) 0 → Gf.unfield s.data.toList = none)) := fun h h' e => by
    have hh := Gf.un_zeros (b := s.data.toList) (by rw [hF]; omega) (by rw [Gf.len_eq]; exact h') (fun _ => by omega)
    rw [hF, Gf.len_eq] at hh
    exact Gf.un_ne (by rw [hF]; omega) (by rw [Gf.len_eq]; omega) (by rw [Gf.len_eq]; exact fun q => e (hh.1 q))
  have hpk : Hid (Gf.pick s.data.toList = (s.data.toList.drop 2).take (s.size - Gf.miss s.data.toList)) := by show _ = _; unfold Gf.pick; rw [hF, Gf.len_eq]
  clear hF
  generalize Gf.miss s.data.toList = M at *
  have hx0 := UInt8.toNat_lt s[0]
  have hx1 := UInt8.toNat_lt s[1]
  have o1 : bits .and .i64 (s[0].toNat : Int) 127 = ((s[0].toNat - 128 : Nat) : Int) := by
    have := Bit.and_i64_mask (s[0].toNat : Int) 7 127 (by decide) (by decide)
    exact this.trans (by omega)
  have o2 : bits .or .i64 ((s[0].toNat - 128 : Nat) : Int) ((s[1].toNat : Int) * 128) = (M : Int) := by
    have e := Bit.or_i64 (s[0].toNat - 128) (s[1].toNat * 128) (by omega) (by omega)
    have a : (s[0].toNat - 128) ||| s[1].toNat * 128 = M := by
      have := Nat.two_pow_add_eq_or_of_lt (i := 7) (b := s[0].toNat - 128) (by omega) s[1].toNat
      have t7 : 2 ^ 7 * s[1].toNat ||| (s[0].toNat - 128) = M := by rw [← this]; omega
      rw [Nat.or_comm, Nat.mul_comm]
      exact t7
    rw [a] at e
    rw [← e]; congr 1
  generalize s[0].toNat - 128 = q0 at *
  replace hM := Rg.hid hM
  go_enter Try.func33, Try.ntmps33
  go_upto_region 5 with fail
  clear o1 o2 hM hd1 hb hx0 hx1
  by_cases a0 : M < 128
  · have hr : Hid (Gf.unfield s.data.toList = none) := htwo.out a0
    have d0 : decide ((M : Int) < 128) = true := by simp; omega
    clear htwo hlow hhigh heq hne
    go_wp2
    go_ret2
    exact ⟨by rw [hr.out]; rfl, rfl⟩
  have d0 : decide ((M : Int) < 128) = false := by simp; omega
  have d1 : decide ((M : Int) < 1) = false := by simp; omega
  by_cases a2 : s.size < M
  · have hr : Hid (Gf.unfield s.data.toList = none) := hhigh.out a2
    have d2 : decide ((s.size : Int) < (M : Int)) = true := by simp; omega
    clear hlow hhigh heq hne
    go_wp2
    go_ret2
    exact ⟨by rw [hr.out]; rfl, rfl⟩
  have d2 : decide ((s.size : Int) < (M : Int)) = false := by simp; omega
  obtain ⟨E, hE⟩ : ∃ E, 2 + s.size - M = E := ⟨_, rfl⟩
  have hEi : (2 : Int) + (s.size : Int) - (M : Int) = (E : Int) := by omega
  have hE1 : 2 ≤ E := by omega
  have hE2 : E ≤ s.size := by omega
  have hE1i : (2 : Int) ≤ (E : Int) := by omega
  have hE2i : (E : Int) ≤ (s.size : Int) := by omega
  have d3 : decide ((s.size : Int) < (E : Int)) = false := by simp; omega
  have hEd : E - 2 = s.size - M := by omega
  have heq := heq.out (by omega) (by omega)
  have hne := hne.out (by omega) (by omega)
  rw [hE] at heq hne
  have hMF : M - 2 = s.size - E := by omega
  rw [hMF] at heq hne
  replace heq := Rg.hid heq
  replace hne := Rg.hid hne
  have hDr : Hid ((s.extract 2 E) = ⟨(Gf.pick s.data.toList).toArray⟩) := by
    show _ = _
    rw [hpk.out, ← hEd, ← Gf.extract_eq s 2 E hE1 hE2]
  replace hE := Rg.hid hE
  clear hlow hhigh hpk hMF hEd
  go_wp2
  go_loopw [7] (fun i wr => ∃ k : Nat, E ≤ k ∧ k ≤ s.size ∧ i = .int .i64 k ∧ Hid (∀ j, E ≤ j → j < k → s.data.toList.getD j 0 = 0) ∧ w = wr) (fun i _ => s.size - (intOf i).toNat)
  case atStart => exact ⟨E, Nat.le_refl _, hE2, rfl, fun j h1 h2 => absurd h1 (by omega), rfl⟩
  case round =>
    obtain ⟨k, hk1, hk2, rfl, hz0, rfl⟩ := hrel
    by_cases hlt : k < s.size
    · have hki : (k : Int) < (s.size : Int) := by omega
      have hk0 : (0 : Int) ≤ (k : Int) := by omega
      have hgd : s.data.toList.getD k 0 = s[k] := Gf.getD_at s k hlt
      have hb := UInt8.toNat_lt s[k]
      by_cases he : s[k].toNat = 0
      · have dd : ((s[k].toNat : Int) == 0) = true := beq_iff_eq.2 (by omega)
        have he' : s[k] = 0 := UInt8.toNat_inj.1 he
        have hz1 : Hid (∀ j, E ≤ j → j < k + 1 → s.data.toList.getD j 0 = 0) := fun j h1 h2 => by
          rcases Nat.lt_or_ge j k with h | h
          · exact hz0.out j h1 h
          · obtain rfl : j = k := by omega
            rw [hgd]; exact he'
        clear he' hgd heq hne hz0
        go_wp2
        go_roundw
        case rel => exact ⟨k + 1, by omega, by omega, by go_num, hz1, trivial⟩
        case measure => simp [intOf]; omega
      · have dd : ((s[k].toNat : Int) == 0) = false := beq_eq_false_iff_ne.2 (by omega)
        have hr : Hid (Gf.unfield s.data.toList = none) := hne.out (Gf.zeros_no hk1 (by rw [hgd]; exact fun e => he (by rw [e]; rfl)))
        clear hgd heq hne hz0
        go_wp2
        go_ret2
        exact ⟨by rw [hr.out]; rfl, rfl⟩
    · have dd : decide ((k : Int) < (s.size : Int)) = false := by simp; omega
      have hr : Hid (Gf.unfield s.data.toList = some (Gf.pick s.data.toList)) := heq.out (by
        have h := Gf.zeros_of (l := s.data.toList) (E := E) (fun j h1 h2 => hz0.out j h1 (by rw [Gf.len_eq] at h2; omega)) (by rw [Gf.len_eq]; exact hE2)
        rw [Gf.len_eq] at h
        exact h)
      clear heq hne hz0
      go_wp2
      go_ret2
      exact ⟨by rw [hr.out, hDr.out]; rfl, rfl⟩
theorem unfield_any (s : ByteArray) (h2 : 2 ≤ s.size) (hz : s.size ≤ 4096) (w : World) :
    Calls Try.prog 33 #[.string s] w fun e w' => e = .returned (unfieldOut (Gf.unfield s.data.toList)) ∧ w = w' := by
  by_cases hb : s[0].toNat < 128
  · exact unfield_one s h2 hz hb w
  · exact unfield_two s h2 hz hb w
end Go.Proofs.Ytpgjdobgfhhbiaa
