/-
  Layer 6: DiskFull.
-/
import Derived.Test.YtempiajepomajaaDk21
namespace Go.Proofs.Ytempiajepomajaa
open Go.RowKit

namespace Dsk
theorem burn_ever {d : Dk} (h : d.fuse = -1) : burn d = d := by
  unfold burn; rw [if_neg (by omega)]
theorem operate_ever {d : Dk} (h : d.fuse = -1) (o : Dop) : operate d o = (note d o, 0) := by
  unfold operate; rw [if_neg (by omega), burn_ever h]
theorem sync_ever {d : Dk} (h : d.fuse = -1) (h' : d.down = false) : sync d = (settle d d.ops.length, 0) := by
  unfold sync; rw [if_neg (by rw [h']; simp), if_neg (by omega), burn_ever h]
theorem files_note {d : Dk} (h : d.down = false) (o : Dop) : files (note d o) = after (files d) o := by
  unfold files
  rw [if_neg (by show ¬ d.down = true; rw [h]; simp), if_neg (by rw [h]; simp)]
  exact behind_snoc d.safe d.ops o
theorem files_settle {d : Dk} (h : d.down = false) : files (settle d d.ops.length) = files d := by
  unfold files
  rw [if_neg (by show ¬ d.down = true; rw [h]; simp), if_neg (by rw [h]; simp)]
  show behind (behind d.safe (d.ops.take d.ops.length)) [] = _
  rw [List.take_of_length_le (Nat.le_refl _)]; rfl
/-- DiskFull: the files have room -/
structure Full (rm : Int) (d : Dk) : Prop where
  ok : Ok d
  fuse : d.fuse = -1
  down : d.down = false
  cap : d.cap = room rm
  fit : (used (files d) : Int) ≤ room rm
theorem Full.play {rm : Int} {d : Dk} (h : Full rm d) (c : Cl) (hw : Wt d + c.x.size + 16 ≤ 10000000000) (hm : c.m ≤ 9223372036854775807) (hk : c.k ≤ 5) : Full rm (Dsk.play d c).1 ∧ ((Dsk.play d c).2 ≠ 0 → (Dsk.play d c).1 = d) := by
  have hok := (play_ok h.ok c hw hm).1
  by_cases hk4 : 1 ≤ c.k ∧ c.k ≤ 4
  · obtain ⟨o, hok1, _, _, _, q | ⟨_, hr, q⟩⟩ := do_cases d c hk4.1 hk4.2
    · obtain ⟨e, _, q⟩ := q
      rw [q]; exact ⟨h, fun _ => rfl⟩
    · rw [q, operate_ever h.fuse] at hok ⊢
      refine ⟨⟨hok, h.fuse, h.down, h.cap, ?_⟩, fun e => absurd rfl e⟩
      show (used (files (note d o)) : Int) ≤ _
      by_cases h2 : c.k ≤ 2
      · have := hr h2; rw [h.cap] at this; exact this
      · rw [files_note h.down]
        have := used_after (l := files d) o (by omega) (by omega)
        have := h.fit; omega
  · rcases play_other d c hk4 with ⟨_, e⟩ | ⟨e, _⟩ | ⟨e, _⟩ | ⟨e, _⟩ | ⟨_, e⟩
    · rw [e, sync_ever h.fuse h.down] at hok ⊢
      refine ⟨⟨hok, h.fuse, h.down, h.cap, ?_⟩, fun e => absurd rfl e⟩
      show (used (files (settle d d.ops.length)) : Int) ≤ _
      rw [files_settle h.down]; exact h.fit
    · omega
    · omega
    · omega
    · rw [e] at hok ⊢
      have e2 : start d = d := by
        obtain ⟨safe, ops, cap, fuse, down⟩ := d
        have := h.down
        dsimp only at this
        subst this; rfl
      exact ⟨by show Full rm (start d); rw [e2]; exact h, fun _ => e2⟩
theorem Full.new (rm : Int) : Full rm (new rm) := ⟨new_ok rm, rfl, rfl, rfl, by show ((0 : Nat) : Int) ≤ _; have := room_bd rm; omega⟩
theorem Full.over {rm : Int} {d : Dk} (h : Full rm d) : decide (max 0 rm < (used (files d) : Int)) = false ∧ decide ((60000 : Int) < (used (files d) : Int)) = false := by
  have h1 := h.fit
  have h2 := room_bd rm
  have h3 : room rm ≤ max 0 rm := by unfold room; split; (· omega); split <;> omega
  exact ⟨by simp only [decide_eq_false_iff_not]; omega, by simp only [decide_eq_false_iff_not]; omega⟩
end Dsk

end Go.Proofs.Ytempiajepomajaa
