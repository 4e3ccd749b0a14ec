/-
  Walks of layer 5: Check, and the document's. Layer 18: far of the statements.
-/
import Derived.Test.YtmilfamjkiemaaaGreatDoorSzAH
import Derived.Test.YtmilfamjkiemaaaGreatDoorSzAI
import Derived.Test.YtmilfamjkiemaaaGreatDoorSzAG
namespace Go.Proofs.YtmilfamjkiemaaaGreatDoor
open Go.RowKit

/-- what the walks ask of the world: the table of powers of ten, and bytealg.MaxLen -/
structure Ok (w : World) : Prop where
  tab : Lib.TabIs Tryz.prog w "internal/strconv.uint64pow10" .u64 Lib.pow10Tab
  max : MaxIn w
theorem Ok.below {w w' : World} (h : Ok w) (hb : Below w.heap.size w w') : Ok w' := ⟨tab_below h.tab hb, h.max.below hb (Nat.le_refl _)⟩

/-- a job's cells -/
def Keeps (b : Nat) (g n k : Int) (u f t c : ByteArray) (z : Int) (W : World) : Prop :=
  W.cell? ⟨b, 0, none⟩ = some (.int .i64 g) ∧ W.cell? ⟨b, 1, none⟩ = some (.int .i64 n) ∧ W.cell? ⟨b, 2, none⟩ = some (.int .i64 k) ∧ W.cell? ⟨b, 3, none⟩ = some (.string u) ∧
  W.cell? ⟨b, 4, none⟩ = some (.string f) ∧ W.cell? ⟨b, 5, none⟩ = some (.string t) ∧ W.cell? ⟨b, 6, none⟩ = some (.string c) ∧ W.cell? ⟨b, 7, none⟩ = some (.int .i64 z)
theorem Keeps.below {b B : Nat} {g n k z : Int} {u f t c : ByteArray} {W W' : World} (h : Keeps b g n k u f t c z W) (hb : Below B W W') (hB : b < B) : Keeps b g n k u f t c z W' := by
  have e (o : Nat) : W'.cell? ⟨b, o, none⟩ = W.cell? ⟨b, o, none⟩ := hb.cell (p := ⟨b, o, none⟩) hB
  unfold Keeps at *
  simp only [e]
  exact h
theorem keeps_new (g n k : Int) (u f t c : ByteArray) (z : Int) (w : World) (ty : TypeId) : Keeps w.heap.size g n k u f t c z (w.alloc (.cells #[.int .i64 g, .int .i64 n, .int .i64 k, .string u, .string f, .string t, .string c, .int .i64 z] ty)) := by
  unfold Keeps
  refine ⟨?_, ?_, ?_, ?_, ?_, ?_, ?_, ?_⟩ <;> simp
/-- a chain of calls that keeps one early world -/
theorem chain {w0 w1 : World} {b : Nat} {g n k z : Int} {u f t c : ByteArray} {F : Nat} {A : Array Value} {E : Ending} (h0 : Keeps b g n k u f t c z w0) (hb : b < w0.heap.size) (hW : Below w0.heap.size w0 w1)
    (hc : Calls Tryz.prog F A w1 fun e w' => e = E ∧ Below w1.heap.size w1 w') : Calls Tryz.prog F A w1 fun e w' => e = E ∧ Below w0.heap.size w0 w' ∧ Keeps b g n k u f t c z w' :=
  hc.mono fun _ _ ⟨h1, h2⟩ => ⟨h1, hW.trans (h2.mono hW.size), h0.below (hW.trans (h2.mono hW.size)) hb⟩

namespace Job
theorem knd_ltr (k : Int) : (ltr k = []) ↔ knd k = false := by
  unfold ltr knd
  by_cases h1 : k = 1
  · subst h1; simp
  · by_cases h2 : k = 2
    · subst h2; simp
    · by_cases h3 : k = 3
      · subst h3; simp
      · simp [h1, h2, h3]
theorem ltr_ne {k : Int} (h : knd k = true) : ((⟨(ltr k).toArray⟩ : ByteArray).toList == []) = false := by
  rw [tl_eq, beq_eq_false_iff_ne]
  intro e
  have : ltr k = [] := e
  rw [(knd_ltr k).1 this] at h; cases h
theorem chk1 {j : Jb} (h : (Nam.may j.g j.n && knd j.k) = false) : chk j = 1 := by unfold chk; rw [if_pos h]
theorem chk2 {j : Jb} (h1 : Nam.may j.g j.n = true) (h2 : knd j.k = true) (h : usr j.u.data.toList = false) : chk j = 11 := by unfold chk; rw [if_neg (by simp [h1, h2]), if_pos h]
theorem chk3 {j : Jb} (h1 : Nam.may j.g j.n = true) (h2 : knd j.k = true) (h3 : usr j.u.data.toList = true) (h : Pth.chk j.f.data.toList ≠ 0 ∨ Pth.chk j.t.data.toList ≠ 0) : chk j = 3 := by
  unfold chk; rw [if_neg (by simp [h1, h2]), if_neg (by simp [h3]), if_pos h]
theorem chk4 {j : Jb} (h1 : Nam.may j.g j.n = true) (h2 : knd j.k = true) (h3 : usr j.u.data.toList = true) (h4 : Pth.chk j.f.data.toList = 0) (h5 : Pth.chk j.t.data.toList = 0) (h : cmd j.k j.c.data.toList = false) : chk j = 3 := by
  unfold chk; rw [if_neg (by simp [h1, h2]), if_neg (by simp [h3]), if_neg (by simp [h4, h5]), if_pos h]
theorem chk5 {j : Jb} (h1 : Nam.may j.g j.n = true) (h2 : knd j.k = true) (h3 : usr j.u.data.toList = true) (h4 : Pth.chk j.f.data.toList = 0) (h5 : Pth.chk j.t.data.toList = 0) (h6 : cmd j.k j.c.data.toList = true) (h : j.z < 0 ∨ 6000 < j.z) : chk j = 5 := by
  unfold chk; rw [if_neg (by simp [h1, h2]), if_neg (by simp [h3]), if_neg (by simp [h4, h5]), if_neg (by simp [h6]), if_pos h]
end Job

set_option maxHeartbeats 4000000 in
set_option maxRecDepth 100000 in
theorem jcheck_any (g n k : Int) (u f t c : ByteArray) (z : Int) (w : World) (hw : Ok w) (hu : u.size ≤ maxLen) (hf : f.size ≤ maxLen) (ht : t.size ≤ maxLen) (hc : c.size ≤ maxLen) :
    Calls Tryz.prog 61 #[.agg #[.int .i64 g, .int .i64 n, .int .i64 k, .string u, .string f, .string t, .string c, .int .i64 z]] w fun e w' => e = .returned (.int .i64 (Job.chk ⟨g, n, k, u, f, t, c, z⟩ : Nat)) ∧ Below w.heap.size w w' := by
  have hb0 : w.heap.size < (w.alloc (.cells #[.int .i64 g, .int .i64 n, .int .i64 k, .string u, .string f, .string t, .string c, .int .i64 z] 33)).heap.size := by simp
  have hk0 : Keeps w.heap.size g n k u f t c z (w.alloc (.cells #[.int .i64 g, .int .i64 n, .int .i64 k, .string u, .string f, .string t, .string c, .int .i64 z] 33)) := keeps_new g n k u f t c z w _
  have bw : Below w.heap.size w (w.alloc (.cells #[.int .i64 g, .int .i64 n, .int .i64 k, .string u, .string f, .string t, .string c, .int .i64 z] 33)) := below_alloc1 w _
  have hw0 : Ok (w.alloc (.cells #[.int .i64 g, .int .i64 n, .int .i64 k, .string u, .string f, .string t, .string c, .int .i64 z] 33)) := hw.below bw
  have HI : Hid (∀ W, Below (w.alloc (.cells #[.int .i64 g, .int .i64 n, .int .i64 k, .string u, .string f, .string t, .string c, .int .i64 z] 33)).heap.size (w.alloc (.cells #[.int .i64 g, .int .i64 n, .int .i64 k, .string u, .string f, .string t, .string c, .int .i64 z] 33)) W → Calls Tryz.prog 62 #[.agg #[.int .i64 g, .int .i64 n]] W fun e w' => e = .returned (.tuple #[.string ⟨(Nam.id g n).1.toArray⟩, .int .i64 (Nam.id g n).2]) ∧ Below (w.alloc (.cells #[.int .i64 g, .int .i64 n, .int .i64 k, .string u, .string f, .string t, .string c, .int .i64 z] 33)).heap.size (w.alloc (.cells #[.int .i64 g, .int .i64 n, .int .i64 k, .string u, .string f, .string t, .string c, .int .i64 z] 33)) w' ∧ Keeps w.heap.size g n k u f t c z w') := fun W hW => chain hk0 hb0 hW (id_any g n W (hw0.below hW).tab)
  have HU : Hid (∀ W, Calls Tryz.prog 98 #[.string u] W fun e w' => e = .returned (.bool (Job.usr u.data.toList)) ∧ w' = W) := fun W => isUser_any u W hu
  have HF : Hid (∀ W, Below (w.alloc (.cells #[.int .i64 g, .int .i64 n, .int .i64 k, .string u, .string f, .string t, .string c, .int .i64 z] 33)).heap.size (w.alloc (.cells #[.int .i64 g, .int .i64 n, .int .i64 k, .string u, .string f, .string t, .string c, .int .i64 z] 33)) W → Calls Tryz.prog 99 #[.string f] W fun e w' => e = .returned (.int .i64 (Pth.chk f.data.toList : Nat)) ∧ Below (w.alloc (.cells #[.int .i64 g, .int .i64 n, .int .i64 k, .string u, .string f, .string t, .string c, .int .i64 z] 33)).heap.size (w.alloc (.cells #[.int .i64 g, .int .i64 n, .int .i64 k, .string u, .string f, .string t, .string c, .int .i64 z] 33)) w' ∧ Keeps w.heap.size g n k u f t c z w') := fun W hW => chain hk0 hb0 hW (check_any f W (hw0.below hW).max hf)
  have HT : Hid (∀ W, Below (w.alloc (.cells #[.int .i64 g, .int .i64 n, .int .i64 k, .string u, .string f, .string t, .string c, .int .i64 z] 33)).heap.size (w.alloc (.cells #[.int .i64 g, .int .i64 n, .int .i64 k, .string u, .string f, .string t, .string c, .int .i64 z] 33)) W → Calls Tryz.prog 99 #[.string t] W fun e w' => e = .returned (.int .i64 (Pth.chk t.data.toList : Nat)) ∧ Below (w.alloc (.cells #[.int .i64 g, .int .i64 n, .int .i64 k, .string u, .string f, .string t, .string c, .int .i64 z] 33)).heap.size (w.alloc (.cells #[.int .i64 g, .int .i64 n, .int .i64 k, .string u, .string f, .string t, .string c, .int .i64 z] 33)) w' ∧ Keeps w.heap.size g n k u f t c z w') := fun W hW => chain hk0 hb0 hW (check_any t W (hw0.below hW).max ht)
  have HC : Hid (∀ W, Calls Tryz.prog 100 #[.int .i64 k, .string c] W fun e w' => e = .returned (.bool (Job.cmd k c.data.toList)) ∧ w' = W) := fun W => mayHave_any k c W hc
  have HL : Hid (∀ W, Calls Tryz.prog 63 #[.int .i64 k] W fun e w' => e = .returned (.string ⟨(Job.ltr k).toArray⟩) ∧ w' = W) := fun W => letter_any k W
  obtain ⟨j0, j1, j2, j3, j4, j5, j6, j7⟩ := hk0
  cases hm : Nam.may g n
  · have hr : Hid (Job.chk ⟨g, n, k, u, f, t, c, z⟩ = 1) := Job.chk1 (by simp [hm])
    have hid : Nam.id g n = ([], 1) := by unfold Nam.id; rw [hm]; rfl
    rw [hid] at HI
    clear hid hm HU HF HT HC hw0 hw hb0 HL
    go_enter Tryz.func61, Tryz.ntmps61
    go_wp2_with (first
      | (go_at_call 62; refine (HI.out _ (by first | exact Below.refl _ _ | assumption)).mono ?_; rintro e w' ⟨rfl, b', i0, i1, i2, i3, i4, i5, i6, i7⟩)
      | (go_at_call 63; refine (HL.out _).mono ?_; rintro e w' ⟨rfl, rfl⟩)
      | (go_at_call 98; refine (HU.out _).mono ?_; rintro e w' ⟨rfl, rfl⟩)
      | (go_at_call 99; (first | with_reducible refine (HF.out _ (by assumption)).mono ?_ | with_reducible refine (HT.out _ (by assumption)).mono ?_); rintro e w' ⟨rfl, b', i0, i1, i2, i3, i4, i5, i6, i7⟩)
      | (go_at_call 100; refine (HC.out _).mono ?_; rintro e w' ⟨rfl, rfl⟩))
    go_ret
    exact ⟨ret_int (by rw [hr.out]; rfl), bw.trans (Below.mono (by assumption) bw.size)⟩
  · have hid : Nam.id g n = (Nam.idT g n, 0) := by unfold Nam.id; rw [hm]; rfl
    rw [hid] at HI
    clear hid
    generalize Nam.idT g n = A at *
    cases hk : Job.knd k
    · have hr : Hid (Job.chk ⟨g, n, k, u, f, t, c, z⟩ = 1) := Job.chk1 (by simp [hk])
      rw [(Job.knd_ltr k).2 hk] at HL
      clear hm hk HU HF HT HC hw0 hw hb0
      go_enter Tryz.func61, Tryz.ntmps61
      go_wp2_with (first
        | (go_at_call 62; refine (HI.out _ (by first | exact Below.refl _ _ | assumption)).mono ?_; rintro e w' ⟨rfl, b', i0, i1, i2, i3, i4, i5, i6, i7⟩)
        | (go_at_call 63; refine (HL.out _).mono ?_; rintro e w' ⟨rfl, rfl⟩)
        | (go_at_call 98; refine (HU.out _).mono ?_; rintro e w' ⟨rfl, rfl⟩)
        | (go_at_call 99; (first | with_reducible refine (HF.out _ (by assumption)).mono ?_ | with_reducible refine (HT.out _ (by assumption)).mono ?_); rintro e w' ⟨rfl, b', i0, i1, i2, i3, i4, i5, i6, i7⟩)
        | (go_at_call 100; refine (HC.out _).mono ?_; rintro e w' ⟨rfl, rfl⟩))
      go_ret
      exact ⟨ret_int (by rw [hr.out]; rfl), bw.trans (Below.mono (by assumption) bw.size)⟩
    · have hL := Job.ltr_ne hk
      generalize (⟨(Job.ltr k).toArray⟩ : ByteArray) = L at hL HL
      cases hus : Job.usr u.data.toList
      · have hr : Hid (Job.chk ⟨g, n, k, u, f, t, c, z⟩ = 11) := Job.chk2 hm hk hus
        rw [hus] at HU
        clear hm hk hus HF HT HC hw0 hw hb0
        go_enter Tryz.func61, Tryz.ntmps61
        go_wp2_with (first
          | (go_at_call 62; refine (HI.out _ (by first | exact Below.refl _ _ | assumption)).mono ?_; rintro e w' ⟨rfl, b', i0, i1, i2, i3, i4, i5, i6, i7⟩)
          | (go_at_call 63; refine (HL.out _).mono ?_; rintro e w' ⟨rfl, rfl⟩)
          | (go_at_call 98; refine (HU.out _).mono ?_; rintro e w' ⟨rfl, rfl⟩)
          | (go_at_call 99; (first | with_reducible refine (HF.out _ (by assumption)).mono ?_ | with_reducible refine (HT.out _ (by assumption)).mono ?_); rintro e w' ⟨rfl, b', i0, i1, i2, i3, i4, i5, i6, i7⟩)
          | (go_at_call 100; refine (HC.out _).mono ?_; rintro e w' ⟨rfl, rfl⟩))
        go_ret
        exact ⟨ret_int (by rw [hr.out]; rfl), bw.trans (Below.mono (by assumption) bw.size)⟩
      · by_cases hpf : Pth.chk f.data.toList = 0
        · by_cases hpt : Pth.chk t.data.toList = 0
          · cases hcm : Job.cmd k c.data.toList
            · have hr : Hid (Job.chk ⟨g, n, k, u, f, t, c, z⟩ = 3) := Job.chk4 hm hk hus hpf hpt hcm
              rw [hus] at HU
              rw [hpf] at HF
              rw [hpt] at HT
              rw [hcm] at HC
              clear hm hk hus hpf hpt hcm hw0 hw hb0
              go_enter Tryz.func61, Tryz.ntmps61
              go_wp2_with (first
                | (go_at_call 62; refine (HI.out _ (by first | exact Below.refl _ _ | assumption)).mono ?_; rintro e w' ⟨rfl, b', i0, i1, i2, i3, i4, i5, i6, i7⟩)
                | (go_at_call 63; refine (HL.out _).mono ?_; rintro e w' ⟨rfl, rfl⟩)
                | (go_at_call 98; refine (HU.out _).mono ?_; rintro e w' ⟨rfl, rfl⟩)
                | (go_at_call 99; (first | with_reducible refine (HF.out _ (by assumption)).mono ?_ | with_reducible refine (HT.out _ (by assumption)).mono ?_); rintro e w' ⟨rfl, b', i0, i1, i2, i3, i4, i5, i6, i7⟩)
                | (go_at_call 100; refine (HC.out _).mono ?_; rintro e w' ⟨rfl, rfl⟩))
              go_ret
              exact ⟨ret_int (by rw [hr.out]; rfl), bw.trans (Below.mono (by assumption) bw.size)⟩
            · by_cases hz0 : z < 0
              · have hr : Hid (Job.chk ⟨g, n, k, u, f, t, c, z⟩ = 5) := Job.chk5 hm hk hus hpf hpt hcm (.inl hz0)
                have dz : decide (z < 0) = true := by simp [hz0]
                rw [hus] at HU
                rw [hpf] at HF
                rw [hpt] at HT
                rw [hcm] at HC
                clear hm hk hus hpf hpt hcm hw0 hw hb0
                go_enter Tryz.func61, Tryz.ntmps61
                go_wp2_with (first
                  | (go_at_call 62; refine (HI.out _ (by first | exact Below.refl _ _ | assumption)).mono ?_; rintro e w' ⟨rfl, b', i0, i1, i2, i3, i4, i5, i6, i7⟩)
                  | (go_at_call 63; refine (HL.out _).mono ?_; rintro e w' ⟨rfl, rfl⟩)
                  | (go_at_call 98; refine (HU.out _).mono ?_; rintro e w' ⟨rfl, rfl⟩)
                  | (go_at_call 99; (first | with_reducible refine (HF.out _ (by assumption)).mono ?_ | with_reducible refine (HT.out _ (by assumption)).mono ?_); rintro e w' ⟨rfl, b', i0, i1, i2, i3, i4, i5, i6, i7⟩)
                  | (go_at_call 100; refine (HC.out _).mono ?_; rintro e w' ⟨rfl, rfl⟩))
                go_ret
                exact ⟨ret_int (by rw [hr.out]; rfl), bw.trans (Below.mono (by assumption) bw.size)⟩
              · have dz : decide (z < 0) = false := by simp; omega
                by_cases hz1 : 6000 < z
                · have hr : Hid (Job.chk ⟨g, n, k, u, f, t, c, z⟩ = 5) := Job.chk5 hm hk hus hpf hpt hcm (.inr hz1)
                  have dz1 : decide (6000 < z) = true := by simp [hz1]
                  rw [hus] at HU
                  rw [hpf] at HF
                  rw [hpt] at HT
                  rw [hcm] at HC
                  clear hm hk hus hpf hpt hcm hw0 hw hb0
                  go_enter Tryz.func61, Tryz.ntmps61
                  go_wp2_with (first
                    | (go_at_call 62; refine (HI.out _ (by first | exact Below.refl _ _ | assumption)).mono ?_; rintro e w' ⟨rfl, b', i0, i1, i2, i3, i4, i5, i6, i7⟩)
                    | (go_at_call 63; refine (HL.out _).mono ?_; rintro e w' ⟨rfl, rfl⟩)
                    | (go_at_call 98; refine (HU.out _).mono ?_; rintro e w' ⟨rfl, rfl⟩)
                    | (go_at_call 99; (first | with_reducible refine (HF.out _ (by assumption)).mono ?_ | with_reducible refine (HT.out _ (by assumption)).mono ?_); rintro e w' ⟨rfl, b', i0, i1, i2, i3, i4, i5, i6, i7⟩)
                    | (go_at_call 100; refine (HC.out _).mono ?_; rintro e w' ⟨rfl, rfl⟩))
                  go_ret
                  exact ⟨ret_int (by rw [hr.out]; rfl), bw.trans (Below.mono (by assumption) bw.size)⟩
                · have hr : Hid (Job.chk ⟨g, n, k, u, f, t, c, z⟩ = 0) := Job.chk_ok.2 ⟨hm, hk, hus, hpf, hpt, hcm, by simp only; omega, by simp only; omega⟩
                  have dz1 : decide (6000 < z) = false := by simp; omega
                  rw [hus] at HU
                  rw [hpf] at HF
                  rw [hpt] at HT
                  rw [hcm] at HC
                  clear hm hk hus hpf hpt hcm hw0 hw hb0
                  go_enter Tryz.func61, Tryz.ntmps61
                  go_wp2_with (first
                    | (go_at_call 62; refine (HI.out _ (by first | exact Below.refl _ _ | assumption)).mono ?_; rintro e w' ⟨rfl, b', i0, i1, i2, i3, i4, i5, i6, i7⟩)
                    | (go_at_call 63; refine (HL.out _).mono ?_; rintro e w' ⟨rfl, rfl⟩)
                    | (go_at_call 98; refine (HU.out _).mono ?_; rintro e w' ⟨rfl, rfl⟩)
                    | (go_at_call 99; (first | with_reducible refine (HF.out _ (by assumption)).mono ?_ | with_reducible refine (HT.out _ (by assumption)).mono ?_); rintro e w' ⟨rfl, b', i0, i1, i2, i3, i4, i5, i6, i7⟩)
                    | (go_at_call 100; refine (HC.out _).mono ?_; rintro e w' ⟨rfl, rfl⟩))
                  go_ret
                  exact ⟨ret_int (by rw [hr.out]; rfl), bw.trans (Below.mono (by assumption) bw.size)⟩
          · have hr : Hid (Job.chk ⟨g, n, k, u, f, t, c, z⟩ = 3) := Job.chk3 hm hk hus (.inr hpt)
            obtain ⟨n1, n2, n3, n4⟩ := ne_facts hpt
            rw [hus] at HU
            rw [hpf] at HF
            generalize Pth.chk t.data.toList = q at *
            clear hm hk hus hpf HC hw0 hw hb0 hpt
            go_enter Tryz.func61, Tryz.ntmps61
            go_wp2_with (first
              | (go_at_call 62; refine (HI.out _ (by first | exact Below.refl _ _ | assumption)).mono ?_; rintro e w' ⟨rfl, b', i0, i1, i2, i3, i4, i5, i6, i7⟩)
              | (go_at_call 63; refine (HL.out _).mono ?_; rintro e w' ⟨rfl, rfl⟩)
              | (go_at_call 98; refine (HU.out _).mono ?_; rintro e w' ⟨rfl, rfl⟩)
              | (go_at_call 99; (first | with_reducible refine (HF.out _ (by assumption)).mono ?_ | with_reducible refine (HT.out _ (by assumption)).mono ?_); rintro e w' ⟨rfl, b', i0, i1, i2, i3, i4, i5, i6, i7⟩)
              | (go_at_call 100; refine (HC.out _).mono ?_; rintro e w' ⟨rfl, rfl⟩))
            go_ret
            exact ⟨ret_int (by rw [hr.out]; rfl), bw.trans (Below.mono (by assumption) bw.size)⟩
        · have hr : Hid (Job.chk ⟨g, n, k, u, f, t, c, z⟩ = 3) := Job.chk3 hm hk hus (.inl hpf)
          obtain ⟨n1, n2, n3, n4⟩ := ne_facts hpf
          rw [hus] at HU
          generalize Pth.chk f.data.toList = q at *
          clear hm hk hus HC hw0 hw hb0 hpf
          go_enter Tryz.func61, Tryz.ntmps61
          go_wp2_with (first
            | (go_at_call 62; refine (HI.out _ (by first | exact Below.refl _ _ | assumption)).mono ?_; rintro e w' ⟨rfl, b', i0, i1, i2, i3, i4, i5, i6, i7⟩)
            | (go_at_call 63; refine (HL.out _).mono ?_; rintro e w' ⟨rfl, rfl⟩)
            | (go_at_call 98; refine (HU.out _).mono ?_; rintro e w' ⟨rfl, rfl⟩)
            | (go_at_call 99; (first | with_reducible refine (HF.out _ (by assumption)).mono ?_ | with_reducible refine (HT.out _ (by assumption)).mono ?_); rintro e w' ⟨rfl, b', i0, i1, i2, i3, i4, i5, i6, i7⟩)
            | (go_at_call 100; refine (HC.out _).mono ?_; rintro e w' ⟨rfl, rfl⟩))
          go_ret
          exact ⟨ret_int (by rw [hr.out]; rfl), bw.trans (Below.mono (by assumption) bw.size)⟩
end Go.Proofs.YtmilfamjkiemaaaGreatDoor

namespace Go.Proofs.YtmilfamjkiemaaaGreatDoor
open Go.RowKit
/-- what far says -/
def FarPost (n : Nat) (w : World) (e : Ending) (w' : World) : Prop := ∃ B : Bool, e = .returned (.bool B) ∧ Hid (B = false → n ≤ 60) ∧ Hid (Below w.heap.size w w')
set_option maxHeartbeats 4000000 in
set_option maxRecDepth 100000 in
theorem far_any (a : Option Addr) (ca : Nat) (l : List Spl.SOp) (w : World) (hn : l.length ≤ maxLen) (hfit : ∀ c ∈ l, SFits c) (hrow : SRow0 w a l) :
    Calls Tryz.prog 8 #[.slice a l.length ca] w fun e w' => FarPost l.length w e w' := by
  obtain ⟨N, hN⟩ : ∃ N, N = l.length := ⟨_, rfl⟩
  unfold maxLen at hn
  rw [← hN] at hn ⊢
  replace hN := Rg.hid hN
  replace hrow := Rg.hid hrow
  replace hfit := Rg.hid hfit
  go_enter Tryz.func8, Tryz.ntmps8
  go_wp2
  go_loopw [3, 8] (fun v3 v8 wr => ∃ (i : Nat) (nn : Int), i ≤ N ∧ v3 = .int .i64 nn ∧ v8 = .int .i64 i ∧ Below w.heap.size w wr) (fun _ vi _ => N - (intOf vi).toNat)
  case atStart => exact ⟨0, 0, Nat.zero_le _, rfl, rfl, Below.refl _ _⟩
  case round =>
    obtain ⟨i, nn, hin, rfl, rfl, hbw⟩ := hrel
    by_cases hlt : i < N
    · have hil : i < l.length := by rw [← hN.out]; exact hlt
      obtain ⟨rb, ro, rfl, hrb, hat⟩ := hrow.out.cell hil
      have at1 := hat.below hbw hrb
      have hcf := hfit.out _ (List.getElem_mem hil)
      generalize l[i] = c at *
      obtain ⟨ck, cs, ⟨jg, jn, jk, ju, jf, jt, jc, jz⟩, cx, cm⟩ := c
      obtain ⟨c0, c1, c2, c3, c4, c5, c6, c7, c8, c9, c10, c11⟩ := sop_at at1
      dsimp only at c0 c1 c2 c3 c4 c5 c6 c7 c8 c9 c10 c11
      clear hcf
      have iz0 : (0 : Int) ≤ (i : Int) := by omega
      have iz1 : (i : Int) < (N : Int) := by omega
      have bO := Rg.al1 wr (.cells #[.int .i64 ck, .string cs, .int .i64 jg, .int .i64 jn, .int .i64 jk, .string ju, .string jf, .string jt, .string jc, .int .i64 jz, .string cx, .int .i64 cm] 35)
      have kO : Hid (Rg.Bk wr.heap.size [.int .i64 ck, .string cs, .int .i64 jg, .int .i64 jn, .int .i64 jk, .string ju, .string jf, .string jt, .string jc, .int .i64 jz, .string cx, .int .i64 cm] 35 (wr.alloc (.cells #[.int .i64 ck, .string cs, .int .i64 jg, .int .i64 jn, .int .i64 jk, .string ju, .string jf, .string jt, .string jc, .int .i64 jz, .string cx, .int .i64 cm] 35))) := Rg.Bk.new rfl
      have hbw2 := Rg.chain hbw bO
      obtain ⟨S, w2⟩ : ∃ S : Int, wrap64 ((ju.size : Int) + (jf.size : Int)) = S := ⟨_, rfl⟩
      clear hat at1 hrow hfit hil
      go_upto_region 5 with fail
      generalize World.alloc _ _ = wa at *
      obtain ⟨Q, hQ⟩ : ∃ Q, Q = wr.heap.size := ⟨_, rfl⟩
      rw [← hQ] at kO ⊢
      have o1 : wa.cell? ⟨Q, 1, none⟩ = some (.string cs) := kO.out.cell 1
      have o5 : wa.cell? ⟨Q, 5, none⟩ = some (.string ju) := kO.out.cell 5
      have o6 : wa.cell? ⟨Q, 6, none⟩ = some (.string jf) := kO.out.cell 6
      have o7 : wa.cell? ⟨Q, 7, none⟩ = some (.string jt) := kO.out.cell 7
      have o8 : wa.cell? ⟨Q, 8, none⟩ = some (.string jc) := kO.out.cell 8
      have o10 : wa.cell? ⟨Q, 10, none⟩ = some (.string cx) := kO.out.cell 10
      clear hQ kO c0 c1 c2 c3 c4 c5 c6 c7 c8 c9 c10 c11 hbw bO
      by_cases h0 : 1000 < cs.size
      · have d0 : decide ((1000 : Int) < (cs.size : Int)) = true := by simp; omega
        go_wp2
        go_ret
        exact ⟨true, rfl, (fun h => by cases h), hbw2⟩
      have d0 : decide ((1000 : Int) < (cs.size : Int)) = false := by simp; omega
      by_cases h1 : 9000 < cx.size
      · have d1 : decide ((9000 : Int) < (cx.size : Int)) = true := by simp; omega
        go_wp2
        go_ret
        exact ⟨true, rfl, (fun h => by cases h), hbw2⟩
      have d1 : decide ((9000 : Int) < (cx.size : Int)) = false := by simp; omega
      by_cases h2 : (3000 : Int) < S
      · have d2 : decide ((3000 : Int) < S) = true := by simp; omega
        go_wp2
        go_ret
        exact ⟨true, rfl, (fun h => by cases h), hbw2⟩
      have d2 : decide ((3000 : Int) < S) = false := by simp; omega
      by_cases h3 : 3000 < jt.size
      · have d3 : decide ((3000 : Int) < (jt.size : Int)) = true := by simp; omega
        go_wp2
        go_ret
        exact ⟨true, rfl, (fun h => by cases h), hbw2⟩
      have d3 : decide ((3000 : Int) < (jt.size : Int)) = false := by simp; omega
      by_cases h4 : 3000 < jc.size
      · have d4 : decide ((3000 : Int) < (jc.size : Int)) = true := by simp; omega
        go_wp2
        go_ret
        exact ⟨true, rfl, (fun h => by cases h), hbw2⟩
      have d4 : decide ((3000 : Int) < (jc.size : Int)) = false := by simp; omega
      go_upto_region 8 with fail
      generalize wrap64 (nn + _) = mm
      clear w2 d0 d1 d2 d3 d4 o1 o5 o6 o7 o8 o10
      go_wp2
      go_roundw
      case rel => exact ⟨i + 1, mm, by omega, rfl, by go_num, hbw2⟩
      case measure => simp [intOf]; omega
    · obtain rfl : i = N := by omega
      have d0 : (decide ((60 : Int) < (i : Int))) = decide (60 < i) := by congr 1; simp; omega
      by_cases h60 : 60 < i
      · have d1 : decide ((60 : Int) < (i : Int)) = true := by simp; omega
        clear d0
        go_wp2
        go_ret
        exact ⟨true, rfl, (fun h => by cases h), hbw⟩
      · have d1 : decide ((60 : Int) < (i : Int)) = false := by simp; omega
        clear d0
        go_wp2
        go_ret
        exact ⟨_, rfl, (fun _ => by omega), hbw⟩
end Go.Proofs.YtmilfamjkiemaaaGreatDoor
