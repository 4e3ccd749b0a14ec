/-
  Walks of layer 10: the document's Parse.
-/
import Derived.Test.YtgnjjbpfgokndaaDoorCmdF
import Derived.Test.YtgnjjbpfgokndaaDoorCmdD
import Derived.Test.YtgnjjbpfgokndaaDoorJb12
namespace Go.Proofs.YtgnjjbpfgokndaaDoor
open Go.RowKit

namespace Cmd
theorem itoa_pos (a : Nat) : 1 ≤ (Lib.itoa (a : Int)).length := by
  have e : Lib.itoa (a : Int) = Lib.decDigits a := by unfold Lib.itoa; simp
  rw [e, Lib.decDigits_length]
  by_cases h : a < 10
  · rw [Lib.nDigits_small h]; exact Nat.le_refl _
  · rw [Lib.nDigits_big (by omega)]; omega
/-- how a text is formed -/
theorem is_form {c : Cw} {l : Bs} (h : Is c l) : l = [72] ∨ l = [67] ∨ ∃ b r, l = b :: 32 :: r ∧ 1 ≤ r.length ∧ (b = 83 ∨ b = 69 ∨ b = 82 ∨ b = 89 ∨ b = 78 ∨ b = 70) := by
  rcases h with ⟨j, hc, hk, rfl, rfl⟩ | ⟨j, hc, hk, rfl, rfl⟩ | ⟨rfl, rfl⟩ | ⟨rfl, rfl⟩ | ⟨a, ha, rfl, rfl⟩ | ⟨a, ha, rfl, rfl⟩ | ⟨a, ha, rfl, rfl⟩
  · obtain ⟨b, r, e, hl, hb⟩ := txt_send hc hk
    exact .inr (.inr ⟨b, r, e, by omega, by rcases hb with hb | hb <;> simp [hb]⟩)
  · obtain ⟨r, e, hl⟩ := txt_fetch hc hk
    exact .inr (.inr ⟨82, r, e, by omega, by simp⟩)
  · exact .inl rfl
  · exact .inr (.inl rfl)
  · exact .inr (.inr ⟨89, _, rfl, itoa_pos a, by simp⟩)
  · exact .inr (.inr ⟨78, _, rfl, itoa_pos a, by simp⟩)
  · exact .inr (.inr ⟨70, _, rfl, itoa_pos a, by simp⟩)
theorem two_first {s : ByteArray} {b : UInt8} {r : Bs} (h : s.data.toList = b :: 32 :: r) : ∃ h2 : 1 < s.size, s[0] = b ∧ s[1] = 32 ∧ s.size = r.length + 2 := by
  have hl : s.size = r.length + 2 := by rw [← Oct.len_eq, h]; rfl
  refine ⟨by omega, ?_, ?_, hl⟩
  · have e : s[0]'(by omega) = s.data.toList[0]'(by rw [Oct.len_eq]; omega) := rfl
    rw [e]; simp [h]
  · have e : s[1]'(by omega) = s.data.toList[1]'(by rw [Oct.len_eq]; omega) := rfl
    rw [e]; simp [h]
/-- a text that is too short, or has no blank there -/
theorem bad_form {s : ByteArray} (h1 : s.data.toList ≠ [72]) (h2 : s.data.toList ≠ [67]) (h : s.size < 3 ∨ ∃ hs : 1 < s.size, s[1] ≠ 32) : parse s.data.toList = (zero, 3) := by
  refine parse_no fun c hc => ?_
  rcases is_form hc with e | e | ⟨b, r, e, hr, _⟩
  · exact h1 e
  · exact h2 e
  · obtain ⟨h3, _, h4, h5⟩ := two_first e
    rcases h with h | ⟨_, h⟩
    · omega
    · exact h h4
theorem bad_first {s : ByteArray} (h3 : 2 < s.size) (h : s[0] ≠ 83 ∧ s[0] ≠ 69 ∧ s[0] ≠ 82 ∧ s[0] ≠ 89 ∧ s[0] ≠ 78 ∧ s[0] ≠ 70) : parse s.data.toList = (zero, 3) := by
  refine parse_no fun c hc => ?_
  rcases is_form hc with e | e | ⟨b, r, e, hr, hb⟩
  · have := congrArg List.length e; rw [Oct.len_eq] at this; simp at this; omega
  · have := congrArg List.length e; rw [Oct.len_eq] at this; simp at this; omega
  · obtain ⟨_, h4, _, _⟩ := two_first e
    rw [← h4] at hb
    obtain ⟨a1, a2, a3, a4, a5, a6⟩ := h
    rcases hb with hb | hb | hb | hb | hb | hb
    · exact a1 hb
    · exact a2 hb
    · exact a3 hb
    · exact a4 hb
    · exact a5 hb
    · exact a6 hb
/-- which word a text of that first letter says -/
theorem is_first {s : ByteArray} (h3 : 2 < s.size) {c : Cw} (h : says s.data.toList c) :
    ((s[0] = 83 ∨ s[0] = 69) ∧ ∃ j, Job.says s.data.toList j ∧ c = ⟨1, j, 0⟩) ∨ (s[0] = 82 ∧ ∃ j, Job.says s.data.toList j ∧ c = ⟨2, j, 0⟩) ∨
    (∃ v a, ((s[0] = 89 ∧ v = 4) ∨ (s[0] = 78 ∧ v = 5) ∨ (s[0] = 70 ∧ v = 7)) ∧ a ≤ 6000 ∧ c = ⟨v, Job.zero, (a : Nat)⟩ ∧ s.data.toList.drop 2 = Lib.itoa a) := by
  have hn (b : UInt8) : s.data.toList ≠ [b] := fun e => by have := congrArg List.length e; rw [Oct.len_eq] at this; simp at this; omega
  generalize hl : s.data.toList = l at *
  rcases is_of h with ⟨j, hc, hk, rfl, rfl⟩ | ⟨j, hc, hk, rfl, rfl⟩ | ⟨rfl, rfl⟩ | ⟨rfl, rfl⟩ | ⟨a, ha, rfl, rfl⟩ | ⟨a, ha, rfl, rfl⟩ | ⟨a, ha, rfl, rfl⟩
  · obtain ⟨b, r, e, _, hb⟩ := txt_send hc hk
    obtain ⟨_, h0, _⟩ := two_first (hl.trans e)
    exact .inl ⟨by rw [h0]; exact hb, j, ⟨hc, rfl⟩, rfl⟩
  · obtain ⟨r, e, _⟩ := txt_fetch hc hk
    obtain ⟨_, h0, _⟩ := two_first (hl.trans e)
    exact .inr (.inl ⟨h0, j, ⟨hc, rfl⟩, rfl⟩)
  · exact absurd rfl (hn _)
  · exact absurd rfl (hn _)
  · obtain ⟨_, h0, _⟩ := two_first hl
    exact .inr (.inr ⟨4, a, .inl ⟨h0, rfl⟩, ha, rfl, rfl⟩)
  · obtain ⟨_, h0, _⟩ := two_first hl
    exact .inr (.inr ⟨5, a, .inr (.inl ⟨h0, rfl⟩), by omega, rfl, rfl⟩)
  · obtain ⟨_, h0, _⟩ := two_first hl
    exact .inr (.inr ⟨7, a, .inr (.inr ⟨h0, rfl⟩), by omega, rfl, rfl⟩)
/-- of a job's text -/
theorem job_first {s : ByteArray} (h3 : 2 < s.size) {j : Job.Jb} (h : Job.says s.data.toList j) : ((s[0] = 83 ∨ s[0] = 69) → says s.data.toList ⟨1, j, 0⟩) ∧ (s[0] = 82 → says s.data.toList ⟨2, j, 0⟩) := by
  rcases knd_cases h.1 with hk | hk
  · obtain ⟨b, r, e, _, hb⟩ := txt_send h.1 hk
    obtain ⟨_, h0, _⟩ := two_first (h.2.symm.trans e)
    refine ⟨fun _ => says_is (by rw [← h.2]; exact .send j h.1 hk), fun c => ?_⟩
    exfalso
    rw [h0] at c
    rcases hb with hb | hb <;> rw [hb] at c <;> revert c <;> decide
  · obtain ⟨r, e, _⟩ := txt_fetch h.1 hk
    obtain ⟨_, h0, _⟩ := two_first (h.2.symm.trans e)
    refine ⟨fun c => ?_, fun _ => says_is (by rw [← h.2]; exact .fetch j h.1 hk)⟩
    exfalso
    rw [h0] at c
    revert c; decide
theorem parse_send {s : ByteArray} (h3 : 2 < s.size) (h : s[0] = 83 ∨ s[0] = 69) :
    (∃ j, Job.parse s.data.toList = (j, 0) ∧ parse s.data.toList = (⟨1, j, 0⟩, 0)) ∨ (Job.parse s.data.toList = (Job.zero, 3) ∧ parse s.data.toList = (zero, 3)) := by
  rcases Job.parse_cases s.data.toList with ⟨j, hj, hp⟩ | ⟨hn, hp⟩
  · exact .inl ⟨j, hp, parse_yes ((job_first h3 hj).1 h)⟩
  · refine .inr ⟨hp, parse_no fun c hc => ?_⟩
    rcases is_first h3 (says_is hc) with ⟨_, j, hj, _⟩ | ⟨_, j, hj, _⟩ | ⟨v, a, hv, _⟩
    · exact hn ⟨j, hj⟩
    · exact hn ⟨j, hj⟩
    · rcases h with h | h <;> rw [h] at hv <;> revert hv <;> simp
theorem parse_fetch {s : ByteArray} (h3 : 2 < s.size) (h : s[0] = 82) :
    (∃ j, Job.parse s.data.toList = (j, 0) ∧ parse s.data.toList = (⟨2, j, 0⟩, 0)) ∨ (Job.parse s.data.toList = (Job.zero, 3) ∧ parse s.data.toList = (zero, 3)) := by
  rcases Job.parse_cases s.data.toList with ⟨j, hj, hp⟩ | ⟨hn, hp⟩
  · exact .inl ⟨j, hp, parse_yes ((job_first h3 hj).2 h)⟩
  · refine .inr ⟨hp, parse_no fun c hc => ?_⟩
    rcases is_first h3 (says_is hc) with ⟨_, j, hj, _⟩ | ⟨_, j, hj, _⟩ | ⟨v, a, hv, _⟩
    · exact hn ⟨j, hj⟩
    · exact hn ⟨j, hj⟩
    · rw [h] at hv; revert hv; simp
theorem parse_num {s : ByteArray} (h3 : 2 < s.size) {v : Int} (h : (s[0] = 89 ∧ v = 4) ∨ (s[0] = 78 ∧ v = 5) ∨ (s[0] = 70 ∧ v = 7)) :
    (∃ a : Nat, Oct.number (s.data.toList.drop 2) = (a, 0) ∧ text ⟨v, Job.zero, a⟩ = (s.data.toList, 0) ∧ parse s.data.toList = (⟨v, Job.zero, a⟩, 0)) ∨
    (text ⟨v, Job.zero, ((Oct.number (s.data.toList.drop 2)).1 : Nat)⟩ ≠ (s.data.toList, 0) ∧ parse s.data.toList = (zero, 3)) := by
  rcases parse_cases s.data.toList with ⟨c, hc, hp⟩ | ⟨hn, hp⟩
  · rcases is_first h3 hc with ⟨hx, _⟩ | ⟨hx, _⟩ | ⟨v', a, hv, ha, rfl, hd⟩
    · exfalso
      rcases hx with hx | hx <;> rw [hx] at h <;> revert h <;> simp
    · exfalso
      rw [hx] at h; revert h; simp
    · have e : v' = v := by
        rcases h with ⟨h, rfl⟩ | ⟨h, rfl⟩ | ⟨h, rfl⟩ <;> rw [h] at hv <;> revert hv <;> simp
      subst e
      exact .inl ⟨a, by rw [hd]; exact Oct.number_itoa (by omega), hc, hp⟩
  · exact .inr ⟨fun e => hn _ e, hp⟩
end Cmd
end Go.Proofs.YtgnjjbpfgokndaaDoor
