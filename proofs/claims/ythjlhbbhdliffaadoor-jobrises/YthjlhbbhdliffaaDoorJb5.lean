/-
  Walks of layer 5: the document's Check.
-/
import Derived.Test.YthjlhbbhdliffaaDoorJb4
namespace Go.Proofs.YthjlhbbhdliffaaDoor
open Go.RowKit

namespace Job
theorem cmd_oth {k : Int} {c : ByteArray} {b : Bool} (hk : k ≠ 2) (h : cmd k c.data.toList = b) : (c.toList == []) = b := by
  unfold cmd at h; rw [if_neg hk] at h; rw [tl_eq]; exact h
end Job

set_option maxHeartbeats 4000000 in
set_option maxRecDepth 100000 in
theorem rjcheck_any (g n k : Int) (u f t c : ByteArray) (z : Int) (w : World) (hw : Ok w) (hu : u.size ≤ maxLen) (hf : f.size ≤ maxLen) (ht : t.size ≤ maxLen) (hc : c.size ≤ maxLen) :
    Calls Tryd.prog 13 #[.agg #[.int .i64 g, .int .i64 n, .int .i64 k, .string u, .string f, .string t, .string c, .int .i64 z]] w fun e w' => e = .returned (.int .i64 (Job.chk ⟨g, n, k, u, f, t, c, z⟩ : Nat)) ∧ Below w.heap.size w w' := by
  have hb0 : w.heap.size < (w.alloc (.cells #[.int .i64 g, .int .i64 n, .int .i64 k, .string u, .string f, .string t, .string c, .int .i64 z] 25)).heap.size := by simp
  have hk0 : Keeps w.heap.size g n k u f t c z (w.alloc (.cells #[.int .i64 g, .int .i64 n, .int .i64 k, .string u, .string f, .string t, .string c, .int .i64 z] 25)) := keeps_new g n k u f t c z w _
  have bw : Below w.heap.size w (w.alloc (.cells #[.int .i64 g, .int .i64 n, .int .i64 k, .string u, .string f, .string t, .string c, .int .i64 z] 25)) := below_alloc1 w _
  have hw0 : Ok (w.alloc (.cells #[.int .i64 g, .int .i64 n, .int .i64 k, .string u, .string f, .string t, .string c, .int .i64 z] 25)) := hw.below bw
  have HI : Hid (∀ W, Below (w.alloc (.cells #[.int .i64 g, .int .i64 n, .int .i64 k, .string u, .string f, .string t, .string c, .int .i64 z] 25)).heap.size (w.alloc (.cells #[.int .i64 g, .int .i64 n, .int .i64 k, .string u, .string f, .string t, .string c, .int .i64 z] 25)) W → Calls Tryd.prog 22 #[.agg #[.int .i64 g, .int .i64 n]] W fun e w' => e = .returned (.tuple #[.string ⟨(Nam.id g n).1.toArray⟩, .int .i64 (Nam.id g n).2]) ∧ Below (w.alloc (.cells #[.int .i64 g, .int .i64 n, .int .i64 k, .string u, .string f, .string t, .string c, .int .i64 z] 25)).heap.size (w.alloc (.cells #[.int .i64 g, .int .i64 n, .int .i64 k, .string u, .string f, .string t, .string c, .int .i64 z] 25)) w' ∧ Keeps w.heap.size g n k u f t c z w') := fun W hW => chain hk0 hb0 hW (refId_any g n W)
  have HU : Hid (∀ W, Calls Tryd.prog 27 #[.string u] W fun e w' => e = .returned (.bool (Job.usr u.data.toList)) ∧ w' = W) := fun W => ruser_any u W hu
  have HF : Hid (∀ W, Below (w.alloc (.cells #[.int .i64 g, .int .i64 n, .int .i64 k, .string u, .string f, .string t, .string c, .int .i64 z] 25)).heap.size (w.alloc (.cells #[.int .i64 g, .int .i64 n, .int .i64 k, .string u, .string f, .string t, .string c, .int .i64 z] 25)) W → Calls Tryd.prog 28 #[.string f] W fun e w' => e = .returned (.int .i64 (Pth.chk f.data.toList : Nat)) ∧ Below (w.alloc (.cells #[.int .i64 g, .int .i64 n, .int .i64 k, .string u, .string f, .string t, .string c, .int .i64 z] 25)).heap.size (w.alloc (.cells #[.int .i64 g, .int .i64 n, .int .i64 k, .string u, .string f, .string t, .string c, .int .i64 z] 25)) w' ∧ Keeps w.heap.size g n k u f t c z w') := fun W hW => chain hk0 hb0 hW (rcheck_any f W hf)
  have HT : Hid (∀ W, Below (w.alloc (.cells #[.int .i64 g, .int .i64 n, .int .i64 k, .string u, .string f, .string t, .string c, .int .i64 z] 25)).heap.size (w.alloc (.cells #[.int .i64 g, .int .i64 n, .int .i64 k, .string u, .string f, .string t, .string c, .int .i64 z] 25)) W → Calls Tryd.prog 28 #[.string t] W fun e w' => e = .returned (.int .i64 (Pth.chk t.data.toList : Nat)) ∧ Below (w.alloc (.cells #[.int .i64 g, .int .i64 n, .int .i64 k, .string u, .string f, .string t, .string c, .int .i64 z] 25)).heap.size (w.alloc (.cells #[.int .i64 g, .int .i64 n, .int .i64 k, .string u, .string f, .string t, .string c, .int .i64 z] 25)) w' ∧ Keeps w.heap.size g n k u f t c z w') := fun W hW => chain hk0 hb0 hW (rcheck_any t W ht)
  have HC : Hid (∀ W, Calls Tryd.prog 29 #[.string c, .int .i64 60] W fun e w' => e = .returned (.bool (Job.wrd c.data.toList)) ∧ w' = W) := fun W => rword_any c W hc
  obtain ⟨j0, j1, j2, j3, j4, j5, j6, j7⟩ := hk0
  cases hm : Nam.may g n
  · have hr : Hid (Job.chk ⟨g, n, k, u, f, t, c, z⟩ = 1) := Job.chk1 (by simp [hm])
    have hid : Nam.id g n = ([], 1) := by unfold Nam.id; rw [hm]; rfl
    rw [hid] at HI
    clear hid hm HU HF HT HC hw0 hw hb0
    go_enter Tryd.func13, Tryd.ntmps13
    go_wp2_with (first
      | (go_at_call 22; refine (HI.out _ (by first | exact Below.refl _ _ | assumption)).mono ?_; rintro e w' ⟨rfl, b', i0, i1, i2, i3, i4, i5, i6, i7⟩)
      | (go_at_call 27; refine (HU.out _).mono ?_; rintro e w' ⟨rfl, rfl⟩)
      | (go_at_call 28; (first | with_reducible refine (HF.out _ (by assumption)).mono ?_ | with_reducible refine (HT.out _ (by assumption)).mono ?_); rintro e w' ⟨rfl, b', i0, i1, i2, i3, i4, i5, i6, i7⟩)
      | (go_at_call 29; refine (HC.out _).mono ?_; rintro e w' ⟨rfl, rfl⟩))
    go_ret
    exact ⟨ret_int (by rw [hr.out]; rfl), bw.trans (Below.mono (by assumption) bw.size)⟩
  · have hid : Nam.id g n = (Nam.idT g n, 0) := by unfold Nam.id; rw [hm]; rfl
    rw [hid] at HI
    clear hid
    generalize Nam.idT g n = A at *
    cases hk : Job.knd k
    · have hr : Hid (Job.chk ⟨g, n, k, u, f, t, c, z⟩ = 1) := Job.chk1 (by simp [hk])
      obtain ⟨⟨q1, q2⟩, q3⟩ : (¬ k = 1 ∧ ¬ k = 2) ∧ ¬ k = 3 := by simpa [Job.knd] using hk
      have d1 : (k != 1) = true := by simp [q1]
      have d2 : (k != 2) = true := by simp [q2]
      have d3 : (k != 3) = true := by simp [q3]
      have f1 : (k == 1) = false := by simp [q1]
      have f2 : (k == 2) = false := by simp [q2]
      have f3 : (k == 3) = false := by simp [q3]
      clear hm hk HU HF HT HC hw0 hw hb0
      go_enter Tryd.func13, Tryd.ntmps13
      go_wp2_with (first
        | (go_at_call 22; refine (HI.out _ (by first | exact Below.refl _ _ | assumption)).mono ?_; rintro e w' ⟨rfl, b', i0, i1, i2, i3, i4, i5, i6, i7⟩)
        | (go_at_call 27; refine (HU.out _).mono ?_; rintro e w' ⟨rfl, rfl⟩)
        | (go_at_call 28; (first | with_reducible refine (HF.out _ (by assumption)).mono ?_ | with_reducible refine (HT.out _ (by assumption)).mono ?_); rintro e w' ⟨rfl, b', i0, i1, i2, i3, i4, i5, i6, i7⟩)
        | (go_at_call 29; refine (HC.out _).mono ?_; rintro e w' ⟨rfl, rfl⟩))
      go_ret
      exact ⟨ret_int (by rw [hr.out]; rfl), bw.trans (Below.mono (by assumption) bw.size)⟩
    · obtain rfl | rfl | rfl : k = 2 ∨ k = 1 ∨ k = 3 := by
        simp only [Job.knd, Bool.or_eq_true, beq_iff_eq] at hk; omega
      · skip
        cases hus : Job.usr u.data.toList
        · have hr : Hid (Job.chk ⟨g, n, 2, u, f, t, c, z⟩ = 11) := Job.chk2 hm hk hus
          rw [hus] at HU
          clear hm hk hus HF HT HC hw0 hw hb0
          go_enter Tryd.func13, Tryd.ntmps13
          go_wp2_with (first
            | (go_at_call 22; refine (HI.out _ (by first | exact Below.refl _ _ | assumption)).mono ?_; rintro e w' ⟨rfl, b', i0, i1, i2, i3, i4, i5, i6, i7⟩)
            | (go_at_call 27; refine (HU.out _).mono ?_; rintro e w' ⟨rfl, rfl⟩)
            | (go_at_call 28; (first | with_reducible refine (HF.out _ (by assumption)).mono ?_ | with_reducible refine (HT.out _ (by assumption)).mono ?_); rintro e w' ⟨rfl, b', i0, i1, i2, i3, i4, i5, i6, i7⟩)
            | (go_at_call 29; refine (HC.out _).mono ?_; rintro e w' ⟨rfl, rfl⟩))
          go_ret
          exact ⟨ret_int (by rw [hr.out]; rfl), bw.trans (Below.mono (by assumption) bw.size)⟩
        · by_cases hpf : Pth.chk f.data.toList = 0
          · by_cases hpt : Pth.chk t.data.toList = 0
            · cases hcm : Job.cmd 2 c.data.toList
              · have hr : Hid (Job.chk ⟨g, n, 2, u, f, t, c, z⟩ = 3) := Job.chk4 hm hk hus hpf hpt hcm
                rw [hus] at HU
                rw [hpf] at HF
                rw [hpt] at HT
                have hcw : Job.wrd c.data.toList = _ := hcm
                rw [hcw] at HC
                clear hcw
                clear hm hk hus hpf hpt hcm hw0 hw hb0
                go_enter Tryd.func13, Tryd.ntmps13
                go_wp2_with (first
                  | (go_at_call 22; refine (HI.out _ (by first | exact Below.refl _ _ | assumption)).mono ?_; rintro e w' ⟨rfl, b', i0, i1, i2, i3, i4, i5, i6, i7⟩)
                  | (go_at_call 27; refine (HU.out _).mono ?_; rintro e w' ⟨rfl, rfl⟩)
                  | (go_at_call 28; (first | with_reducible refine (HF.out _ (by assumption)).mono ?_ | with_reducible refine (HT.out _ (by assumption)).mono ?_); rintro e w' ⟨rfl, b', i0, i1, i2, i3, i4, i5, i6, i7⟩)
                  | (go_at_call 29; refine (HC.out _).mono ?_; rintro e w' ⟨rfl, rfl⟩))
                go_ret
                exact ⟨ret_int (by rw [hr.out]; rfl), bw.trans (Below.mono (by assumption) bw.size)⟩
              · have hcw : Job.wrd c.data.toList = _ := hcm
                rw [hcw] at HC
                clear hcw
                by_cases hz0 : z < 0
                · have hr : Hid (Job.chk ⟨g, n, 2, u, f, t, c, z⟩ = 5) := Job.chk5 hm hk hus hpf hpt hcm (.inl hz0)
                  have dz : decide (z < 0) = true := by simp [hz0]
                  rw [hus] at HU
                  rw [hpf] at HF
                  rw [hpt] at HT
                  clear hm hk hus hpf hpt hcm hw0 hw hb0
                  go_enter Tryd.func13, Tryd.ntmps13
                  go_wp2_with (first
                    | (go_at_call 22; refine (HI.out _ (by first | exact Below.refl _ _ | assumption)).mono ?_; rintro e w' ⟨rfl, b', i0, i1, i2, i3, i4, i5, i6, i7⟩)
                    | (go_at_call 27; refine (HU.out _).mono ?_; rintro e w' ⟨rfl, rfl⟩)
                    | (go_at_call 28; (first | with_reducible refine (HF.out _ (by assumption)).mono ?_ | with_reducible refine (HT.out _ (by assumption)).mono ?_); rintro e w' ⟨rfl, b', i0, i1, i2, i3, i4, i5, i6, i7⟩)
                    | (go_at_call 29; refine (HC.out _).mono ?_; rintro e w' ⟨rfl, rfl⟩))
                  go_ret
                  exact ⟨ret_int (by rw [hr.out]; rfl), bw.trans (Below.mono (by assumption) bw.size)⟩
                · have dz : decide (z < 0) = false := by simp; omega
                  by_cases hz1 : 6000 < z
                  · have hr : Hid (Job.chk ⟨g, n, 2, u, f, t, c, z⟩ = 5) := Job.chk5 hm hk hus hpf hpt hcm (.inr hz1)
                    have dz1 : decide (6000 < z) = true := by simp [hz1]
                    rw [hus] at HU
                    rw [hpf] at HF
                    rw [hpt] at HT
                    clear hm hk hus hpf hpt hcm hw0 hw hb0
                    go_enter Tryd.func13, Tryd.ntmps13
                    go_wp2_with (first
                      | (go_at_call 22; refine (HI.out _ (by first | exact Below.refl _ _ | assumption)).mono ?_; rintro e w' ⟨rfl, b', i0, i1, i2, i3, i4, i5, i6, i7⟩)
                      | (go_at_call 27; refine (HU.out _).mono ?_; rintro e w' ⟨rfl, rfl⟩)
                      | (go_at_call 28; (first | with_reducible refine (HF.out _ (by assumption)).mono ?_ | with_reducible refine (HT.out _ (by assumption)).mono ?_); rintro e w' ⟨rfl, b', i0, i1, i2, i3, i4, i5, i6, i7⟩)
                      | (go_at_call 29; refine (HC.out _).mono ?_; rintro e w' ⟨rfl, rfl⟩))
                    go_ret
                    exact ⟨ret_int (by rw [hr.out]; rfl), bw.trans (Below.mono (by assumption) bw.size)⟩
                  · have hr : Hid (Job.chk ⟨g, n, 2, u, f, t, c, z⟩ = 0) := Job.chk_ok.2 ⟨hm, hk, hus, hpf, hpt, hcm, by simp only; omega, by simp only; omega⟩
                    have dz1 : decide (6000 < z) = false := by simp; omega
                    rw [hus] at HU
                    rw [hpf] at HF
                    rw [hpt] at HT
                    clear hm hk hus hpf hpt hcm hw0 hw hb0
                    go_enter Tryd.func13, Tryd.ntmps13
                    go_wp2_with (first
                      | (go_at_call 22; refine (HI.out _ (by first | exact Below.refl _ _ | assumption)).mono ?_; rintro e w' ⟨rfl, b', i0, i1, i2, i3, i4, i5, i6, i7⟩)
                      | (go_at_call 27; refine (HU.out _).mono ?_; rintro e w' ⟨rfl, rfl⟩)
                      | (go_at_call 28; (first | with_reducible refine (HF.out _ (by assumption)).mono ?_ | with_reducible refine (HT.out _ (by assumption)).mono ?_); rintro e w' ⟨rfl, b', i0, i1, i2, i3, i4, i5, i6, i7⟩)
                      | (go_at_call 29; refine (HC.out _).mono ?_; rintro e w' ⟨rfl, rfl⟩))
                    go_ret
                    exact ⟨ret_int (by rw [hr.out]; rfl), bw.trans (Below.mono (by assumption) bw.size)⟩
            · have hr : Hid (Job.chk ⟨g, n, 2, u, f, t, c, z⟩ = 3) := Job.chk3 hm hk hus (.inr hpt)
              obtain ⟨n1, n2, n3, n4⟩ := ne_facts hpt
              rw [hus] at HU
              rw [hpf] at HF
              generalize Pth.chk t.data.toList = q at *
              clear hm hk hus hpf HC hw0 hw hb0 hpt
              go_enter Tryd.func13, Tryd.ntmps13
              go_wp2_with (first
                | (go_at_call 22; refine (HI.out _ (by first | exact Below.refl _ _ | assumption)).mono ?_; rintro e w' ⟨rfl, b', i0, i1, i2, i3, i4, i5, i6, i7⟩)
                | (go_at_call 27; refine (HU.out _).mono ?_; rintro e w' ⟨rfl, rfl⟩)
                | (go_at_call 28; (first | with_reducible refine (HF.out _ (by assumption)).mono ?_ | with_reducible refine (HT.out _ (by assumption)).mono ?_); rintro e w' ⟨rfl, b', i0, i1, i2, i3, i4, i5, i6, i7⟩)
                | (go_at_call 29; refine (HC.out _).mono ?_; rintro e w' ⟨rfl, rfl⟩))
              go_ret
              exact ⟨ret_int (by rw [hr.out]; rfl), bw.trans (Below.mono (by assumption) bw.size)⟩
          · have hr : Hid (Job.chk ⟨g, n, 2, u, f, t, c, z⟩ = 3) := Job.chk3 hm hk hus (.inl hpf)
            obtain ⟨n1, n2, n3, n4⟩ := ne_facts hpf
            rw [hus] at HU
            generalize Pth.chk f.data.toList = q at *
            clear hm hk hus HC hw0 hw hb0 hpf
            go_enter Tryd.func13, Tryd.ntmps13
            go_wp2_with (first
              | (go_at_call 22; refine (HI.out _ (by first | exact Below.refl _ _ | assumption)).mono ?_; rintro e w' ⟨rfl, b', i0, i1, i2, i3, i4, i5, i6, i7⟩)
              | (go_at_call 27; refine (HU.out _).mono ?_; rintro e w' ⟨rfl, rfl⟩)
              | (go_at_call 28; (first | with_reducible refine (HF.out _ (by assumption)).mono ?_ | with_reducible refine (HT.out _ (by assumption)).mono ?_); rintro e w' ⟨rfl, b', i0, i1, i2, i3, i4, i5, i6, i7⟩)
              | (go_at_call 29; refine (HC.out _).mono ?_; rintro e w' ⟨rfl, rfl⟩))
            go_ret
            exact ⟨ret_int (by rw [hr.out]; rfl), bw.trans (Below.mono (by assumption) bw.size)⟩
      · skip
        cases hus : Job.usr u.data.toList
        · have hr : Hid (Job.chk ⟨g, n, 1, u, f, t, c, z⟩ = 11) := Job.chk2 hm hk hus
          rw [hus] at HU
          clear hm hk hus HF HT HC hw0 hw hb0
          go_enter Tryd.func13, Tryd.ntmps13
          go_wp2_with (first
            | (go_at_call 22; refine (HI.out _ (by first | exact Below.refl _ _ | assumption)).mono ?_; rintro e w' ⟨rfl, b', i0, i1, i2, i3, i4, i5, i6, i7⟩)
            | (go_at_call 27; refine (HU.out _).mono ?_; rintro e w' ⟨rfl, rfl⟩)
            | (go_at_call 28; (first | with_reducible refine (HF.out _ (by assumption)).mono ?_ | with_reducible refine (HT.out _ (by assumption)).mono ?_); rintro e w' ⟨rfl, b', i0, i1, i2, i3, i4, i5, i6, i7⟩)
            | (go_at_call 29; refine (HC.out _).mono ?_; rintro e w' ⟨rfl, rfl⟩))
          go_ret
          exact ⟨ret_int (by rw [hr.out]; rfl), bw.trans (Below.mono (by assumption) bw.size)⟩
        · by_cases hpf : Pth.chk f.data.toList = 0
          · by_cases hpt : Pth.chk t.data.toList = 0
            · cases hcm : Job.cmd 1 c.data.toList
              · have hr : Hid (Job.chk ⟨g, n, 1, u, f, t, c, z⟩ = 3) := Job.chk4 hm hk hus hpf hpt hcm
                rw [hus] at HU
                rw [hpf] at HF
                rw [hpt] at HT
                have hce : (c.toList == []) = _ := Job.cmd_oth (by decide) hcm
                clear hm hk hus hpf hpt hcm hw0 hw hb0
                go_enter Tryd.func13, Tryd.ntmps13
                go_wp2_with (first
                  | (go_at_call 22; refine (HI.out _ (by first | exact Below.refl _ _ | assumption)).mono ?_; rintro e w' ⟨rfl, b', i0, i1, i2, i3, i4, i5, i6, i7⟩)
                  | (go_at_call 27; refine (HU.out _).mono ?_; rintro e w' ⟨rfl, rfl⟩)
                  | (go_at_call 28; (first | with_reducible refine (HF.out _ (by assumption)).mono ?_ | with_reducible refine (HT.out _ (by assumption)).mono ?_); rintro e w' ⟨rfl, b', i0, i1, i2, i3, i4, i5, i6, i7⟩)
                  | (go_at_call 29; refine (HC.out _).mono ?_; rintro e w' ⟨rfl, rfl⟩))
                go_ret
                exact ⟨ret_int (by rw [hr.out]; rfl), bw.trans (Below.mono (by assumption) bw.size)⟩
              · have hce : (c.toList == []) = _ := Job.cmd_oth (by decide) hcm
                by_cases hz0 : z < 0
                · have hr : Hid (Job.chk ⟨g, n, 1, u, f, t, c, z⟩ = 5) := Job.chk5 hm hk hus hpf hpt hcm (.inl hz0)
                  have dz : decide (z < 0) = true := by simp [hz0]
                  rw [hus] at HU
                  rw [hpf] at HF
                  rw [hpt] at HT
                  clear hm hk hus hpf hpt hcm hw0 hw hb0
                  go_enter Tryd.func13, Tryd.ntmps13
                  go_wp2_with (first
                    | (go_at_call 22; refine (HI.out _ (by first | exact Below.refl _ _ | assumption)).mono ?_; rintro e w' ⟨rfl, b', i0, i1, i2, i3, i4, i5, i6, i7⟩)
                    | (go_at_call 27; refine (HU.out _).mono ?_; rintro e w' ⟨rfl, rfl⟩)
                    | (go_at_call 28; (first | with_reducible refine (HF.out _ (by assumption)).mono ?_ | with_reducible refine (HT.out _ (by assumption)).mono ?_); rintro e w' ⟨rfl, b', i0, i1, i2, i3, i4, i5, i6, i7⟩)
                    | (go_at_call 29; refine (HC.out _).mono ?_; rintro e w' ⟨rfl, rfl⟩))
                  go_ret
                  exact ⟨ret_int (by rw [hr.out]; rfl), bw.trans (Below.mono (by assumption) bw.size)⟩
                · have dz : decide (z < 0) = false := by simp; omega
                  by_cases hz1 : 6000 < z
                  · have hr : Hid (Job.chk ⟨g, n, 1, u, f, t, c, z⟩ = 5) := Job.chk5 hm hk hus hpf hpt hcm (.inr hz1)
                    have dz1 : decide (6000 < z) = true := by simp [hz1]
                    rw [hus] at HU
                    rw [hpf] at HF
                    rw [hpt] at HT
                    clear hm hk hus hpf hpt hcm hw0 hw hb0
                    go_enter Tryd.func13, Tryd.ntmps13
                    go_wp2_with (first
                      | (go_at_call 22; refine (HI.out _ (by first | exact Below.refl _ _ | assumption)).mono ?_; rintro e w' ⟨rfl, b', i0, i1, i2, i3, i4, i5, i6, i7⟩)
                      | (go_at_call 27; refine (HU.out _).mono ?_; rintro e w' ⟨rfl, rfl⟩)
                      | (go_at_call 28; (first | with_reducible refine (HF.out _ (by assumption)).mono ?_ | with_reducible refine (HT.out _ (by assumption)).mono ?_); rintro e w' ⟨rfl, b', i0, i1, i2, i3, i4, i5, i6, i7⟩)
                      | (go_at_call 29; refine (HC.out _).mono ?_; rintro e w' ⟨rfl, rfl⟩))
                    go_ret
                    exact ⟨ret_int (by rw [hr.out]; rfl), bw.trans (Below.mono (by assumption) bw.size)⟩
                  · have hr : Hid (Job.chk ⟨g, n, 1, u, f, t, c, z⟩ = 0) := Job.chk_ok.2 ⟨hm, hk, hus, hpf, hpt, hcm, by simp only; omega, by simp only; omega⟩
                    have dz1 : decide (6000 < z) = false := by simp; omega
                    rw [hus] at HU
                    rw [hpf] at HF
                    rw [hpt] at HT
                    clear hm hk hus hpf hpt hcm hw0 hw hb0
                    go_enter Tryd.func13, Tryd.ntmps13
                    go_wp2_with (first
                      | (go_at_call 22; refine (HI.out _ (by first | exact Below.refl _ _ | assumption)).mono ?_; rintro e w' ⟨rfl, b', i0, i1, i2, i3, i4, i5, i6, i7⟩)
                      | (go_at_call 27; refine (HU.out _).mono ?_; rintro e w' ⟨rfl, rfl⟩)
                      | (go_at_call 28; (first | with_reducible refine (HF.out _ (by assumption)).mono ?_ | with_reducible refine (HT.out _ (by assumption)).mono ?_); rintro e w' ⟨rfl, b', i0, i1, i2, i3, i4, i5, i6, i7⟩)
                      | (go_at_call 29; refine (HC.out _).mono ?_; rintro e w' ⟨rfl, rfl⟩))
                    go_ret
                    exact ⟨ret_int (by rw [hr.out]; rfl), bw.trans (Below.mono (by assumption) bw.size)⟩
            · have hr : Hid (Job.chk ⟨g, n, 1, u, f, t, c, z⟩ = 3) := Job.chk3 hm hk hus (.inr hpt)
              obtain ⟨n1, n2, n3, n4⟩ := ne_facts hpt
              rw [hus] at HU
              rw [hpf] at HF
              generalize Pth.chk t.data.toList = q at *
              clear hm hk hus hpf HC hw0 hw hb0 hpt
              go_enter Tryd.func13, Tryd.ntmps13
              go_wp2_with (first
                | (go_at_call 22; refine (HI.out _ (by first | exact Below.refl _ _ | assumption)).mono ?_; rintro e w' ⟨rfl, b', i0, i1, i2, i3, i4, i5, i6, i7⟩)
                | (go_at_call 27; refine (HU.out _).mono ?_; rintro e w' ⟨rfl, rfl⟩)
                | (go_at_call 28; (first | with_reducible refine (HF.out _ (by assumption)).mono ?_ | with_reducible refine (HT.out _ (by assumption)).mono ?_); rintro e w' ⟨rfl, b', i0, i1, i2, i3, i4, i5, i6, i7⟩)
                | (go_at_call 29; refine (HC.out _).mono ?_; rintro e w' ⟨rfl, rfl⟩))
              go_ret
              exact ⟨ret_int (by rw [hr.out]; rfl), bw.trans (Below.mono (by assumption) bw.size)⟩
          · have hr : Hid (Job.chk ⟨g, n, 1, u, f, t, c, z⟩ = 3) := Job.chk3 hm hk hus (.inl hpf)
            obtain ⟨n1, n2, n3, n4⟩ := ne_facts hpf
            rw [hus] at HU
            generalize Pth.chk f.data.toList = q at *
            clear hm hk hus HC hw0 hw hb0 hpf
            go_enter Tryd.func13, Tryd.ntmps13
            go_wp2_with (first
              | (go_at_call 22; refine (HI.out _ (by first | exact Below.refl _ _ | assumption)).mono ?_; rintro e w' ⟨rfl, b', i0, i1, i2, i3, i4, i5, i6, i7⟩)
              | (go_at_call 27; refine (HU.out _).mono ?_; rintro e w' ⟨rfl, rfl⟩)
              | (go_at_call 28; (first | with_reducible refine (HF.out _ (by assumption)).mono ?_ | with_reducible refine (HT.out _ (by assumption)).mono ?_); rintro e w' ⟨rfl, b', i0, i1, i2, i3, i4, i5, i6, i7⟩)
              | (go_at_call 29; refine (HC.out _).mono ?_; rintro e w' ⟨rfl, rfl⟩))
            go_ret
            exact ⟨ret_int (by rw [hr.out]; rfl), bw.trans (Below.mono (by assumption) bw.size)⟩
      · skip
        cases hus : Job.usr u.data.toList
        · have hr : Hid (Job.chk ⟨g, n, 3, u, f, t, c, z⟩ = 11) := Job.chk2 hm hk hus
          rw [hus] at HU
          clear hm hk hus HF HT HC hw0 hw hb0
          go_enter Tryd.func13, Tryd.ntmps13
          go_wp2_with (first
            | (go_at_call 22; refine (HI.out _ (by first | exact Below.refl _ _ | assumption)).mono ?_; rintro e w' ⟨rfl, b', i0, i1, i2, i3, i4, i5, i6, i7⟩)
            | (go_at_call 27; refine (HU.out _).mono ?_; rintro e w' ⟨rfl, rfl⟩)
            | (go_at_call 28; (first | with_reducible refine (HF.out _ (by assumption)).mono ?_ | with_reducible refine (HT.out _ (by assumption)).mono ?_); rintro e w' ⟨rfl, b', i0, i1, i2, i3, i4, i5, i6, i7⟩)
            | (go_at_call 29; refine (HC.out _).mono ?_; rintro e w' ⟨rfl, rfl⟩))
          go_ret
          exact ⟨ret_int (by rw [hr.out]; rfl), bw.trans (Below.mono (by assumption) bw.size)⟩
        · by_cases hpf : Pth.chk f.data.toList = 0
          · by_cases hpt : Pth.chk t.data.toList = 0
            · cases hcm : Job.cmd 3 c.data.toList
              · have hr : Hid (Job.chk ⟨g, n, 3, u, f, t, c, z⟩ = 3) := Job.chk4 hm hk hus hpf hpt hcm
                rw [hus] at HU
                rw [hpf] at HF
                rw [hpt] at HT
                have hce : (c.toList == []) = _ := Job.cmd_oth (by decide) hcm
                clear hm hk hus hpf hpt hcm hw0 hw hb0
                go_enter Tryd.func13, Tryd.ntmps13
                go_wp2_with (first
                  | (go_at_call 22; refine (HI.out _ (by first | exact Below.refl _ _ | assumption)).mono ?_; rintro e w' ⟨rfl, b', i0, i1, i2, i3, i4, i5, i6, i7⟩)
                  | (go_at_call 27; refine (HU.out _).mono ?_; rintro e w' ⟨rfl, rfl⟩)
                  | (go_at_call 28; (first | with_reducible refine (HF.out _ (by assumption)).mono ?_ | with_reducible refine (HT.out _ (by assumption)).mono ?_); rintro e w' ⟨rfl, b', i0, i1, i2, i3, i4, i5, i6, i7⟩)
                  | (go_at_call 29; refine (HC.out _).mono ?_; rintro e w' ⟨rfl, rfl⟩))
                go_ret
                exact ⟨ret_int (by rw [hr.out]; rfl), bw.trans (Below.mono (by assumption) bw.size)⟩
              · have hce : (c.toList == []) = _ := Job.cmd_oth (by decide) hcm
                by_cases hz0 : z < 0
                · have hr : Hid (Job.chk ⟨g, n, 3, u, f, t, c, z⟩ = 5) := Job.chk5 hm hk hus hpf hpt hcm (.inl hz0)
                  have dz : decide (z < 0) = true := by simp [hz0]
                  rw [hus] at HU
                  rw [hpf] at HF
                  rw [hpt] at HT
                  clear hm hk hus hpf hpt hcm hw0 hw hb0
                  go_enter Tryd.func13, Tryd.ntmps13
                  go_wp2_with (first
                    | (go_at_call 22; refine (HI.out _ (by first | exact Below.refl _ _ | assumption)).mono ?_; rintro e w' ⟨rfl, b', i0, i1, i2, i3, i4, i5, i6, i7⟩)
                    | (go_at_call 27; refine (HU.out _).mono ?_; rintro e w' ⟨rfl, rfl⟩)
                    | (go_at_call 28; (first | with_reducible refine (HF.out _ (by assumption)).mono ?_ | with_reducible refine (HT.out _ (by assumption)).mono ?_); rintro e w' ⟨rfl, b', i0, i1, i2, i3, i4, i5, i6, i7⟩)
                    | (go_at_call 29; refine (HC.out _).mono ?_; rintro e w' ⟨rfl, rfl⟩))
                  go_ret
                  exact ⟨ret_int (by rw [hr.out]; rfl), bw.trans (Below.mono (by assumption) bw.size)⟩
                · have dz : decide (z < 0) = false := by simp; omega
                  by_cases hz1 : 6000 < z
                  · have hr : Hid (Job.chk ⟨g, n, 3, u, f, t, c, z⟩ = 5) := Job.chk5 hm hk hus hpf hpt hcm (.inr hz1)
                    have dz1 : decide (6000 < z) = true := by simp [hz1]
                    rw [hus] at HU
                    rw [hpf] at HF
                    rw [hpt] at HT
                    clear hm hk hus hpf hpt hcm hw0 hw hb0
                    go_enter Tryd.func13, Tryd.ntmps13
                    go_wp2_with (first
                      | (go_at_call 22; refine (HI.out _ (by first | exact Below.refl _ _ | assumption)).mono ?_; rintro e w' ⟨rfl, b', i0, i1, i2, i3, i4, i5, i6, i7⟩)
                      | (go_at_call 27; refine (HU.out _).mono ?_; rintro e w' ⟨rfl, rfl⟩)
                      | (go_at_call 28; (first | with_reducible refine (HF.out _ (by assumption)).mono ?_ | with_reducible refine (HT.out _ (by assumption)).mono ?_); rintro e w' ⟨rfl, b', i0, i1, i2, i3, i4, i5, i6, i7⟩)
                      | (go_at_call 29; refine (HC.out _).mono ?_; rintro e w' ⟨rfl, rfl⟩))
                    go_ret
                    exact ⟨ret_int (by rw [hr.out]; rfl), bw.trans (Below.mono (by assumption) bw.size)⟩
                  · have hr : Hid (Job.chk ⟨g, n, 3, u, f, t, c, z⟩ = 0) := Job.chk_ok.2 ⟨hm, hk, hus, hpf, hpt, hcm, by simp only; omega, by simp only; omega⟩
                    have dz1 : decide (6000 < z) = false := by simp; omega
                    rw [hus] at HU
                    rw [hpf] at HF
                    rw [hpt] at HT
                    clear hm hk hus hpf hpt hcm hw0 hw hb0
                    go_enter Tryd.func13, Tryd.ntmps13
                    go_wp2_with (first
                      | (go_at_call 22; refine (HI.out _ (by first | exact Below.refl _ _ | assumption)).mono ?_; rintro e w' ⟨rfl, b', i0, i1, i2, i3, i4, i5, i6, i7⟩)
                      | (go_at_call 27; refine (HU.out _).mono ?_; rintro e w' ⟨rfl, rfl⟩)
                      | (go_at_call 28; (first | with_reducible refine (HF.out _ (by assumption)).mono ?_ | with_reducible refine (HT.out _ (by assumption)).mono ?_); rintro e w' ⟨rfl, b', i0, i1, i2, i3, i4, i5, i6, i7⟩)
                      | (go_at_call 29; refine (HC.out _).mono ?_; rintro e w' ⟨rfl, rfl⟩))
                    go_ret
                    exact ⟨ret_int (by rw [hr.out]; rfl), bw.trans (Below.mono (by assumption) bw.size)⟩
            · have hr : Hid (Job.chk ⟨g, n, 3, u, f, t, c, z⟩ = 3) := Job.chk3 hm hk hus (.inr hpt)
              obtain ⟨n1, n2, n3, n4⟩ := ne_facts hpt
              rw [hus] at HU
              rw [hpf] at HF
              generalize Pth.chk t.data.toList = q at *
              clear hm hk hus hpf HC hw0 hw hb0 hpt
              go_enter Tryd.func13, Tryd.ntmps13
              go_wp2_with (first
                | (go_at_call 22; refine (HI.out _ (by first | exact Below.refl _ _ | assumption)).mono ?_; rintro e w' ⟨rfl, b', i0, i1, i2, i3, i4, i5, i6, i7⟩)
                | (go_at_call 27; refine (HU.out _).mono ?_; rintro e w' ⟨rfl, rfl⟩)
                | (go_at_call 28; (first | with_reducible refine (HF.out _ (by assumption)).mono ?_ | with_reducible refine (HT.out _ (by assumption)).mono ?_); rintro e w' ⟨rfl, b', i0, i1, i2, i3, i4, i5, i6, i7⟩)
                | (go_at_call 29; refine (HC.out _).mono ?_; rintro e w' ⟨rfl, rfl⟩))
              go_ret
              exact ⟨ret_int (by rw [hr.out]; rfl), bw.trans (Below.mono (by assumption) bw.size)⟩
          · have hr : Hid (Job.chk ⟨g, n, 3, u, f, t, c, z⟩ = 3) := Job.chk3 hm hk hus (.inl hpf)
            obtain ⟨n1, n2, n3, n4⟩ := ne_facts hpf
            rw [hus] at HU
            generalize Pth.chk f.data.toList = q at *
            clear hm hk hus HC hw0 hw hb0 hpf
            go_enter Tryd.func13, Tryd.ntmps13
            go_wp2_with (first
              | (go_at_call 22; refine (HI.out _ (by first | exact Below.refl _ _ | assumption)).mono ?_; rintro e w' ⟨rfl, b', i0, i1, i2, i3, i4, i5, i6, i7⟩)
              | (go_at_call 27; refine (HU.out _).mono ?_; rintro e w' ⟨rfl, rfl⟩)
              | (go_at_call 28; (first | with_reducible refine (HF.out _ (by assumption)).mono ?_ | with_reducible refine (HT.out _ (by assumption)).mono ?_); rintro e w' ⟨rfl, b', i0, i1, i2, i3, i4, i5, i6, i7⟩)
              | (go_at_call 29; refine (HC.out _).mono ?_; rintro e w' ⟨rfl, rfl⟩))
            go_ret
            exact ⟨ret_int (by rw [hr.out]; rfl), bw.trans (Below.mono (by assumption) bw.size)⟩
end Go.Proofs.YthjlhbbhdliffaaDoor
