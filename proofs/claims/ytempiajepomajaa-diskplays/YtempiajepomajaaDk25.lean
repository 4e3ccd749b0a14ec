/-
  Layer 6: mathematics of DiskArmed: a disk with another fuse.
-/
import Derived.Test.YtempiajepomajaaDk24
namespace Go.Proofs.Ytempiajepomajaa
namespace Dsk

def fillE (d : Dk) (o : Dop) : Int := if d.down = true then 9 else if isName o.n = true then (if (used (files (note d o)) : Int) > d.cap then 8 else 0) else 11
theorem fill_act (d : Dk) (o : Dop) : fill d o = if fillE d o = 0 then operate d o else (d, fillE d o) := by
  unfold fill fillE
  by_cases h1 : d.down = true
  · simp [h1]
  · by_cases h2 : isName o.n = true
    · by_cases h3 : (used (files (note d o)) : Int) > d.cap
      · simp [h1, h2, h3]
      · simp [h1, h2, h3]
    · simp [h1, h2]
/-- why a call does nothing -/
def actE (d : Dk) (c : Cl) : Int :=
  if c.k = 1 then fillE d ⟨1, c.n, ByteArray.empty, c.x⟩ else if c.k = 2 then fillE d ⟨2, c.n, ByteArray.empty, c.x⟩
  else if c.k = 3 then (if d.down = true then 9 else if isName c.t = true then (read d c.n).2 else 11) else (read d c.n).2
/-- what it does -/
def actO (c : Cl) : Dop :=
  if c.k = 1 then ⟨1, c.n, ByteArray.empty, c.x⟩ else if c.k = 2 then ⟨2, c.n, ByteArray.empty, c.x⟩
  else if c.k = 3 then ⟨3, c.n, c.t, ByteArray.empty⟩ else ⟨4, c.n, ByteArray.empty, ByteArray.empty⟩
theorem play_act (d : Dk) (c : Cl) (h1 : 1 ≤ c.k) (h4 : c.k ≤ 4) : play d c = if actE d c = 0 then operate d (actO c) else (d, actE d c) := by
  unfold play actE actO
  by_cases k1 : c.k = 1
  · rw [if_pos k1, if_pos k1, if_pos k1]; exact fill_act d _
  rw [if_neg k1, if_neg k1, if_neg k1]
  by_cases k2 : c.k = 2
  · rw [if_pos k2, if_pos k2, if_pos k2]; exact fill_act d _
  rw [if_neg k2, if_neg k2, if_neg k2]
  by_cases k3 : c.k = 3
  · rw [if_pos k3, if_pos k3, if_pos k3]
    unfold rename change
    by_cases e1 : d.down = true
    · simp [e1]
    · by_cases e2 : isName c.t = true
      · simp [e1, e2]
      · simp [e1, e2]
  rw [if_neg k3, if_neg k3, if_neg k3]
  have k4 : c.k = 4 := by omega
  rw [if_pos k4]
  rfl
/-- a disk with another fuse -/
def refuse (d : Dk) (k : Int) : Dk := { d with fuse := k }
theorem files_refuse (d : Dk) (k : Int) : files (refuse d k) = files d := rfl
theorem actE_refuse (d : Dk) (k : Int) (c : Cl) : actE (refuse d k) c = actE d c := rfl
/-- DiskArmed: what both disks do -/
theorem armed_play {b : Dk} (h : Ever b) (k : Int) (hk : 0 ≤ k) (c : Cl) (h1 : 1 ≤ c.k) (h5 : c.k ≤ 5) :
    ((play b c).2 ≠ 0 ∧ (play b c).1 = b ∧ play (refuse b k) c = (refuse b k, (play b c).2)) ∨
    ((play b c).2 = 0 ∧ k = 0 ∧ play (refuse b k) c = ({ refuse b k with down := true }, 9)) ∨
    ((play b c).2 = 0 ∧ 0 < k ∧ play (refuse b k) c = (refuse (play b c).1 (k - 1), 0)) := by
  by_cases h4 : c.k ≤ 4
  · rw [play_act b c h1 h4, play_act (refuse b k) c h1 h4, actE_refuse]
    by_cases e : actE b c = 0
    · rw [if_pos e, if_pos e, operate_ever h.fuse]
      by_cases hz : k = 0
      · refine .inr (.inl ⟨rfl, hz, ?_⟩)
        unfold operate
        rw [if_pos (by show k = 0; exact hz)]
      · refine .inr (.inr ⟨rfl, by omega, ?_⟩)
        unfold operate
        rw [if_neg (by show ¬ k = 0; exact hz), burn_eq]
        show (note { refuse b k with fuse := if k > 0 then k - 1 else k } (actO c), (0 : Int)) = _
        rw [if_pos (by omega)]
        rfl
    · rw [if_neg e, if_neg e]
      exact .inl ⟨e, rfl, rfl⟩
  · have k5 : c.k = 5 := by omega
    have p5 : ∀ d, play d c = sync d := fun d => by
      rcases play_other d c (by omega) with ⟨_, e⟩ | ⟨e, _⟩ | ⟨e, _⟩ | ⟨e, _⟩ | ⟨e, _⟩
      · exact e
      · omega
      · omega
      · omega
      · omega
    rw [p5, p5, sync_ever h.fuse h.down]
    by_cases hz : k = 0
    · refine .inr (.inl ⟨rfl, hz, ?_⟩)
      unfold sync
      rw [if_neg (by show ¬ b.down = true; rw [h.down]; simp), if_pos (by show k = 0; exact hz)]
    · refine .inr (.inr ⟨rfl, by omega, ?_⟩)
      unfold sync
      rw [if_neg (by show ¬ b.down = true; rw [h.down]; simp), if_neg (by show ¬ k = 0; exact hz), burn_eq]
      show (settle { refuse b k with fuse := if k > 0 then k - 1 else k } b.ops.length, (0 : Int)) = _
      rw [if_pos (by omega)]
      rfl
theorem refuse_ok {b : Dk} (h : Ok b) (k : Int) (h1 : -1 ≤ k) (h2 : k ≤ 9223372036854775807) : Ok (refuse b k) := ⟨h.srt, h.wt, h1, h2⟩
theorem refuse_wt (b : Dk) (k : Int) : Wt (refuse b k) = Wt b := rfl
theorem arm_new (n k : Int) (h : 0 ≤ k) : arm (new n) k = refuse (new n) k := by
  unfold arm refuse
  rw [show max k (-1) = k by omega]
theorem start_down (b : Dk) (k : Int) (h : b.down = false) : files (start { refuse b k with down := true }) = files b := by
  unfold files
  rw [if_neg (by show ¬ (false = true); simp), if_neg (by rw [h]; simp)]
  rfl
end Dsk
end Go.Proofs.Ytempiajepomajaa
