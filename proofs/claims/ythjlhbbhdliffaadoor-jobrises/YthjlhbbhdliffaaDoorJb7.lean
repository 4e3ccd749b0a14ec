/-
  Walks of layer 5: Text of what may not be; the document's Text.
-/
import Derived.Test.YthjlhbbhdliffaaDoorJb5
import Derived.Test.YthjlhbbhdliffaaDoorJb6
namespace Go.Proofs.YthjlhbbhdliffaaDoor
open Go.RowKit

set_option maxHeartbeats 1000000 in
theorem jtext_no (g n k : Int) (u f t c : ByteArray) (z : Int) (w : World) (hw : Ok w) (h0 : Job.chk ⟨g, n, k, u, f, t, c, z⟩ ≠ 0) (hu : u.size ≤ maxLen) (hf : f.size ≤ maxLen) (ht : t.size ≤ maxLen) (hc : c.size ≤ maxLen) :
    Calls Tryd.prog 10 #[.agg #[.int .i64 g, .int .i64 n, .int .i64 k, .string u, .string f, .string t, .string c, .int .i64 z]] w fun e w' => e = .returned (.tuple #[.string ⟨#[]⟩, .int .i64 (Job.chk ⟨g, n, k, u, f, t, c, z⟩ : Nat)]) ∧ Below w.heap.size w w' := by
  have hb0 : w.heap.size < (w.alloc (.cells #[.int .i64 g, .int .i64 n, .int .i64 k, .string u, .string f, .string t, .string c, .int .i64 z] 25)).heap.size := by simp
  have hk0 : Keeps w.heap.size g n k u f t c z (w.alloc (.cells #[.int .i64 g, .int .i64 n, .int .i64 k, .string u, .string f, .string t, .string c, .int .i64 z] 25)) := keeps_new g n k u f t c z w _
  have bw : Below w.heap.size w (w.alloc (.cells #[.int .i64 g, .int .i64 n, .int .i64 k, .string u, .string f, .string t, .string c, .int .i64 z] 25)) := below_alloc1 w _
  have hw0 : Ok (w.alloc (.cells #[.int .i64 g, .int .i64 n, .int .i64 k, .string u, .string f, .string t, .string c, .int .i64 z] 25)) := hw.below bw
  have HK : Hid (∀ W, Below (w.alloc (.cells #[.int .i64 g, .int .i64 n, .int .i64 k, .string u, .string f, .string t, .string c, .int .i64 z] 25)).heap.size (w.alloc (.cells #[.int .i64 g, .int .i64 n, .int .i64 k, .string u, .string f, .string t, .string c, .int .i64 z] 25)) W → Calls Tryd.prog 12 #[.agg #[.int .i64 g, .int .i64 n, .int .i64 k, .string u, .string f, .string t, .string c, .int .i64 z]] W fun e w' => e = .returned (.int .i64 (Job.chk ⟨g, n, k, u, f, t, c, z⟩ : Nat)) ∧ Below (w.alloc (.cells #[.int .i64 g, .int .i64 n, .int .i64 k, .string u, .string f, .string t, .string c, .int .i64 z] 25)).heap.size (w.alloc (.cells #[.int .i64 g, .int .i64 n, .int .i64 k, .string u, .string f, .string t, .string c, .int .i64 z] 25)) w' ∧ Keeps w.heap.size g n k u f t c z w') := fun W hW => chain hk0 hb0 hW (jcheck_any g n k u f t c z W (hw0.below hW) hu hf ht hc)
  obtain ⟨n1, n2, n3, n4⟩ := ne_facts h0
  generalize Job.chk ⟨g, n, k, u, f, t, c, z⟩ = q at *
  obtain ⟨j0, j1, j2, j3, j4, j5, j6, j7⟩ := hk0
  clear hw0 hw h0
  go_enter Tryd.func10, Tryd.ntmps10
  go_wp2_with (go_at_call 12; refine (HK.out _ (Below.refl _ _)).mono ?_; rintro e w' ⟨rfl, b', i0, i1, i2, i3, i4, i5, i6, i7⟩)
  go_ret2
  exact ⟨rfl, bw.trans (b'.mono bw.size)⟩

theorem jtext_any (g n k : Int) (u f t c : ByteArray) (z : Int) (w : World) (hw : Ok w) (hu : u.size ≤ maxLen) (hf : f.size ≤ maxLen) (ht : t.size ≤ maxLen) (hc : c.size ≤ maxLen) :
    Calls Tryd.prog 10 #[.agg #[.int .i64 g, .int .i64 n, .int .i64 k, .string u, .string f, .string t, .string c, .int .i64 z]] w fun e w' => e = .returned (.tuple #[.string ⟨(Job.text ⟨g, n, k, u, f, t, c, z⟩).1.toArray⟩, .int .i64 ((Job.text ⟨g, n, k, u, f, t, c, z⟩).2 : Nat)]) ∧ Below w.heap.size w w' := by
  by_cases h : Job.chk ⟨g, n, k, u, f, t, c, z⟩ = 0
  · have e : Job.text ⟨g, n, k, u, f, t, c, z⟩ = (Job.txt ⟨g, n, k, u, f, t, c, z⟩, 0) := by unfold Job.text; rw [if_pos h]
    rw [e]
    exact jtext_yes g n k u f t c z w hw h hu hf ht hc
  · have e : Job.text ⟨g, n, k, u, f, t, c, z⟩ = ([], Job.chk ⟨g, n, k, u, f, t, c, z⟩) := by unfold Job.text; rw [if_neg h]
    rw [e]
    exact jtext_no g n k u f t c z w hw h hu hf ht hc

namespace Job
theorem txt_ba (g n k : Int) (u f t c : ByteArray) (z : Int) (L X Z : ByteArray) (hL : L.data.toList = ltr k) (hX : X.data.toList = Nam.idT g n) (hZ : Z.data.toList = Lib.itoa z) :
    (⟨(txt ⟨g, n, k, u, f, t, c, z⟩).toArray⟩ : ByteArray) = if k = 2 then L ++ (⟨#[32]⟩ ++ X ++ ⟨#[32]⟩ ++ u ++ ⟨#[32]⟩ ++ f ++ ⟨#[32]⟩ ++ t ++ ⟨#[32]⟩ ++ Z) ++ ⟨#[32]⟩ ++ c else L ++ (⟨#[32]⟩ ++ X ++ ⟨#[32]⟩ ++ u ++ ⟨#[32]⟩ ++ f ++ ⟨#[32]⟩ ++ t ++ ⟨#[32]⟩ ++ Z) := by
  apply ba_of
  unfold txt ws
  by_cases hk : k = 2
  · simp only [hk, if_true]
    simp only [hk] at hL
    simp [jn, ByteArray.data_append, hL, hX, hZ]
  · simp only [if_neg hk]
    simp [jn, ByteArray.data_append, hL, hX, hZ]
end Job

set_option maxHeartbeats 4000000 in
set_option maxRecDepth 100000 in
theorem rjtext_yes (g n k : Int) (u f t c : ByteArray) (z : Int) (w : World) (hw : Ok w) (h0 : Job.chk ⟨g, n, k, u, f, t, c, z⟩ = 0) (hu : u.size ≤ maxLen) (hf : f.size ≤ maxLen) (ht : t.size ≤ maxLen) (hc : c.size ≤ maxLen) :
    Calls Tryd.prog 11 #[.agg #[.int .i64 g, .int .i64 n, .int .i64 k, .string u, .string f, .string t, .string c, .int .i64 z]] w fun e w' => e = .returned (.tuple #[.string ⟨(Job.txt ⟨g, n, k, u, f, t, c, z⟩).toArray⟩, .int .i64 0]) ∧ Below w.heap.size w w' := by
  obtain ⟨w0, hw0e⟩ : ∃ w0, w0 = w.alloc (.cells #[.int .i64 g, .int .i64 n, .int .i64 k, .string u, .string f, .string t, .string c, .int .i64 z] 25) := ⟨_, rfl⟩
  have hb0 : w.heap.size < w0.heap.size := by rw [hw0e]; simp
  have hk0 : Keeps w.heap.size g n k u f t c z w0 := by rw [hw0e]; exact keeps_new g n k u f t c z w _
  have bw : Below w.heap.size w w0 := by rw [hw0e]; exact below_alloc1 w _
  have hw0 : Ok w0 := hw.below bw
  obtain ⟨h1, h2, h3, h4, h5, h6, h7, h8⟩ := Job.chk_ok.1 h0
  have HK : Hid (∀ W, Below w0.heap.size w0 W → Calls Tryd.prog 13 #[.agg #[.int .i64 g, .int .i64 n, .int .i64 k, .string u, .string f, .string t, .string c, .int .i64 z]] W fun e w' => e = .returned (.int .i64 0) ∧ Below w0.heap.size w0 w' ∧ Keeps w.heap.size g n k u f t c z w') := fun W hW => chain hk0 hb0 hW (by
    have := rjcheck_any g n k u f t c z W (hw0.below hW) hu hf ht hc
    rw [h0] at this
    exact this)
  have HI : Hid (∀ W, Below w0.heap.size w0 W → Calls Tryd.prog 22 #[.agg #[.int .i64 g, .int .i64 n]] W fun e w' => e = .returned (.tuple #[.string ⟨(Nam.idT g n).toArray⟩, .int .i64 0]) ∧ Below w0.heap.size w0 w' ∧ Keeps w.heap.size g n k u f t c z w') := fun W hW => chain hk0 hb0 hW (refId_yes g n W h1)
  have HT : Hid (∀ W, Below w0.heap.size w0 W → Calls Tryd.prog 23 #[.int .i64 z] W fun e w' => e = .returned (.string ⟨(Lib.itoa z).toArray⟩) ∧ Below w0.heap.size w0 w' ∧ Keeps w.heap.size g n k u f t c z w') := fun W hW => chain hk0 hb0 hW (refText_any z W (by simp only at h7; omega) (by simp only at h8; omega))
  have hkk : Hid (Keeps w.heap.size g n k u f t c z w0) := hk0
  obtain ⟨j0, j1, j2, j3, j4, j5, j6, j7⟩ := hk0
  obtain ⟨X, hX⟩ : ∃ X : ByteArray, Hid (X = ⟨(Nam.idT g n).toArray⟩) := ⟨_, rfl⟩
  obtain ⟨Z, hZ⟩ : ∃ Z : ByteArray, Hid (Z = ⟨(Lib.itoa z).toArray⟩) := ⟨_, rfl⟩
  have hB : Hid (∀ L : ByteArray, L.data.toList = Job.ltr k → (⟨(Job.txt ⟨g, n, k, u, f, t, c, z⟩).toArray⟩ : ByteArray) = if k = 2 then L ++ (⟨#[32]⟩ ++ X ++ ⟨#[32]⟩ ++ u ++ ⟨#[32]⟩ ++ f ++ ⟨#[32]⟩ ++ t ++ ⟨#[32]⟩ ++ Z) ++ ⟨#[32]⟩ ++ c else L ++ (⟨#[32]⟩ ++ X ++ ⟨#[32]⟩ ++ u ++ ⟨#[32]⟩ ++ f ++ ⟨#[32]⟩ ++ t ++ ⟨#[32]⟩ ++ Z)) := fun L hL => Job.txt_ba g n k u f t c z L X Z hL (by rw [hX.out]) (by rw [hZ.out])
  have lx : X.size ≤ 6 := by rw [hX.out]; exact Job.idLen h1
  have lz : Z.size ≤ 4 := by rw [hZ.out]; exact Job.nDig h7 h8
  have lu : u.size ≤ 8 := by rw [← Oct.len_eq]; exact Job.usr_len h3
  have lf : f.size ≤ 40 := by rw [← Oct.len_eq]; exact (Pth.chk_ok.1 h4).1
  have lt : t.size ≤ 40 := by rw [← Oct.len_eq]; exact (Pth.chk_ok.1 h5).1
  have lc : c.size ≤ 60 := by rw [← Oct.len_eq]; exact Job.cmd_len h6
  have hkn : k = 1 ∨ k = 2 ∨ k = 3 := by simp only [Job.knd, Bool.or_eq_true, beq_iff_eq] at h2; omega
  rw [← hX.out] at HI
  rw [← hZ.out] at HT
  generalize (⟨(Job.txt ⟨g, n, k, u, f, t, c, z⟩).toArray⟩ : ByteArray) = R at *
  clear h1 h2 h3 h4 h5 h6 h7 h8 h0 hw0 hw hu hf ht hc hX hZ
  subst hw0e
  have q0 : ¬ (9223372036854775807 < 1 + X.size) := by omega
  have q1 : ¬ (9223372036854775807 < 1 + X.size + 1) := by omega
  have r1 : ¬ (9223372036854775806 < 1 + X.size) := by omega
  have q2 : ¬ (9223372036854775807 < 1 + X.size + 1 + u.size) := by omega
  have q3 : ¬ (9223372036854775807 < 1 + X.size + 1 + u.size + 1) := by omega
  have r3 : ¬ (9223372036854775806 < 1 + X.size + 1 + u.size) := by omega
  have q4 : ¬ (9223372036854775807 < 1 + X.size + 1 + u.size + 1 + f.size) := by omega
  have q5 : ¬ (9223372036854775807 < 1 + X.size + 1 + u.size + 1 + f.size + 1) := by omega
  have r5 : ¬ (9223372036854775806 < 1 + X.size + 1 + u.size + 1 + f.size) := by omega
  have q6 : ¬ (9223372036854775807 < 1 + X.size + 1 + u.size + 1 + f.size + 1 + t.size) := by omega
  have q7 : ¬ (9223372036854775807 < 1 + X.size + 1 + u.size + 1 + f.size + 1 + t.size + 1) := by omega
  have r7 : ¬ (9223372036854775806 < 1 + X.size + 1 + u.size + 1 + f.size + 1 + t.size) := by omega
  have q8 : ¬ (9223372036854775807 < 1 + X.size + 1 + u.size + 1 + f.size + 1 + t.size + 1 + Z.size) := by omega
  go_enter Tryd.func11, Tryd.ntmps11
  go_upto_region 5 with (first
    | (go_at_call 13; refine (HK.out _ (by first | exact Below.refl _ _ | assumption)).mono ?_; rintro e w' ⟨rfl, b', i0, i1, i2, i3, i4, i5, i6, i7⟩)
    | (go_at_call 22; refine (HI.out _ (by first | exact Below.refl _ _ | assumption)).mono ?_; rintro e w' ⟨rfl, b', i0, i1, i2, i3, i4, i5, i6, i7⟩))
  go_cut [7] (fun s7 wx => Below (w.alloc (.cells #[.int .i64 g, .int .i64 n, .int .i64 k, .string u, .string f, .string t, .string c, .int .i64 z] 25)).heap.size (w.alloc (.cells #[.int .i64 g, .int .i64 n, .int .i64 k, .string u, .string f, .string t, .string c, .int .i64 z] 25)) wx ∧ s7 = .string (⟨#[32]⟩ ++ X ++ ⟨#[32]⟩ ++ u ++ ⟨#[32]⟩ ++ f ++ ⟨#[32]⟩ ++ t ++ ⟨#[32]⟩ ++ Z))
  case first =>
    go_region_held3 (fun w' => w'.cell? ⟨w.heap.size, 3, none⟩ = some (.string u) ∧ w'.cell? ⟨w.heap.size, 4, none⟩ = some (.string f) ∧ w'.cell? ⟨w.heap.size, 5, none⟩ = some (.string t) ∧ w'.cell? ⟨w.heap.size, 7, none⟩ = some (.int .i64 z)) (go_keep) (first
      | (go_at_call 23; refine (HT.out _ ?_).mono ?_; (first | assumption | exact Below.drew (by assumption)); rintro e w'' ⟨rfl, b'', k0, k1, k2, k3, k4, k5, k6, k7⟩))
    all_goals (go_wp2_with fail; go_meet; exact ⟨by first | assumption | exact Below.drew (by assumption), rfl⟩)
  case rest =>
    obtain ⟨bW, rfl⟩ := hcut
    obtain ⟨m0, m1, m2, m3, m4, m5, m6, m7⟩ := hkk.out.below bW hb0
    have lY : (⟨#[32]⟩ ++ X ++ ⟨#[32]⟩ ++ u ++ ⟨#[32]⟩ ++ f ++ ⟨#[32]⟩ ++ t ++ ⟨#[32]⟩ ++ Z : ByteArray).size ≤ 110 := by simp only [ByteArray.size_append]; have : (⟨#[32]⟩ : ByteArray).size = 1 := rfl; omega
    clear q0 q1 q2 q3 q4 q5 q6 q7 q8 r1 r3 r5 r7 b' i0 i1 i2 i3 i4 i5 i6 i7
    generalize (⟨#[32]⟩ ++ X ++ ⟨#[32]⟩ ++ u ++ ⟨#[32]⟩ ++ f ++ ⟨#[32]⟩ ++ t ++ ⟨#[32]⟩ ++ Z : ByteArray) = Y at *
    rcases hkn with rfl | rfl | rfl
    · have := hB.out ⟨#[83]⟩ rfl
      rw [if_neg (by decide)] at this
      go_wp2
      go_ret2
      exact ⟨by first | exact ret_se this.symm rfl | rfl, bw.trans (bW.mono bw.size)⟩
    · have := hB.out ⟨#[69]⟩ rfl
      rw [if_pos rfl] at this
      go_wp2
      go_ret2
      exact ⟨by first | exact ret_se this.symm rfl | rfl, bw.trans (bW.mono bw.size)⟩
    · have := hB.out ⟨#[82]⟩ rfl
      rw [if_neg (by decide)] at this
      go_wp2
      go_ret2
      exact ⟨by first | exact ret_se this.symm rfl | rfl, bw.trans (bW.mono bw.size)⟩

set_option maxHeartbeats 1000000 in
theorem rjtext_no (g n k : Int) (u f t c : ByteArray) (z : Int) (w : World) (hw : Ok w) (h0 : Job.chk ⟨g, n, k, u, f, t, c, z⟩ ≠ 0) (hu : u.size ≤ maxLen) (hf : f.size ≤ maxLen) (ht : t.size ≤ maxLen) (hc : c.size ≤ maxLen) :
    Calls Tryd.prog 11 #[.agg #[.int .i64 g, .int .i64 n, .int .i64 k, .string u, .string f, .string t, .string c, .int .i64 z]] w fun e w' => e = .returned (.tuple #[.string ⟨#[]⟩, .int .i64 (Job.chk ⟨g, n, k, u, f, t, c, z⟩ : Nat)]) ∧ Below w.heap.size w w' := by
  have hb0 : w.heap.size < (w.alloc (.cells #[.int .i64 g, .int .i64 n, .int .i64 k, .string u, .string f, .string t, .string c, .int .i64 z] 25)).heap.size := by simp
  have hk0 : Keeps w.heap.size g n k u f t c z (w.alloc (.cells #[.int .i64 g, .int .i64 n, .int .i64 k, .string u, .string f, .string t, .string c, .int .i64 z] 25)) := keeps_new g n k u f t c z w _
  have bw : Below w.heap.size w (w.alloc (.cells #[.int .i64 g, .int .i64 n, .int .i64 k, .string u, .string f, .string t, .string c, .int .i64 z] 25)) := below_alloc1 w _
  have hw0 : Ok (w.alloc (.cells #[.int .i64 g, .int .i64 n, .int .i64 k, .string u, .string f, .string t, .string c, .int .i64 z] 25)) := hw.below bw
  have HK : Hid (∀ W, Below (w.alloc (.cells #[.int .i64 g, .int .i64 n, .int .i64 k, .string u, .string f, .string t, .string c, .int .i64 z] 25)).heap.size (w.alloc (.cells #[.int .i64 g, .int .i64 n, .int .i64 k, .string u, .string f, .string t, .string c, .int .i64 z] 25)) W → Calls Tryd.prog 13 #[.agg #[.int .i64 g, .int .i64 n, .int .i64 k, .string u, .string f, .string t, .string c, .int .i64 z]] W fun e w' => e = .returned (.int .i64 (Job.chk ⟨g, n, k, u, f, t, c, z⟩ : Nat)) ∧ Below (w.alloc (.cells #[.int .i64 g, .int .i64 n, .int .i64 k, .string u, .string f, .string t, .string c, .int .i64 z] 25)).heap.size (w.alloc (.cells #[.int .i64 g, .int .i64 n, .int .i64 k, .string u, .string f, .string t, .string c, .int .i64 z] 25)) w' ∧ Keeps w.heap.size g n k u f t c z w') := fun W hW => chain hk0 hb0 hW (rjcheck_any g n k u f t c z W (hw0.below hW) hu hf ht hc)
  obtain ⟨n1, n2, n3, n4⟩ := ne_facts h0
  generalize Job.chk ⟨g, n, k, u, f, t, c, z⟩ = q at *
  obtain ⟨j0, j1, j2, j3, j4, j5, j6, j7⟩ := hk0
  clear hw0 hw h0
  go_enter Tryd.func11, Tryd.ntmps11
  go_wp2_with (go_at_call 13; refine (HK.out _ (Below.refl _ _)).mono ?_; rintro e w' ⟨rfl, b', i0, i1, i2, i3, i4, i5, i6, i7⟩)
  go_ret2
  exact ⟨rfl, bw.trans (b'.mono bw.size)⟩

theorem rjtext_any (g n k : Int) (u f t c : ByteArray) (z : Int) (w : World) (hw : Ok w) (hu : u.size ≤ maxLen) (hf : f.size ≤ maxLen) (ht : t.size ≤ maxLen) (hc : c.size ≤ maxLen) :
    Calls Tryd.prog 11 #[.agg #[.int .i64 g, .int .i64 n, .int .i64 k, .string u, .string f, .string t, .string c, .int .i64 z]] w fun e w' => e = .returned (.tuple #[.string ⟨(Job.text ⟨g, n, k, u, f, t, c, z⟩).1.toArray⟩, .int .i64 ((Job.text ⟨g, n, k, u, f, t, c, z⟩).2 : Nat)]) ∧ Below w.heap.size w w' := by
  by_cases h : Job.chk ⟨g, n, k, u, f, t, c, z⟩ = 0
  · have e : Job.text ⟨g, n, k, u, f, t, c, z⟩ = (Job.txt ⟨g, n, k, u, f, t, c, z⟩, 0) := by unfold Job.text; rw [if_pos h]
    rw [e]
    exact rjtext_yes g n k u f t c z w hw h hu hf ht hc
  · have e : Job.text ⟨g, n, k, u, f, t, c, z⟩ = ([], Job.chk ⟨g, n, k, u, f, t, c, z⟩) := by unfold Job.text; rw [if_neg h]
    rw [e]
    exact rjtext_no g n k u f t c z w hw h hu hf ht hc

end Go.Proofs.YthjlhbbhdliffaaDoor
