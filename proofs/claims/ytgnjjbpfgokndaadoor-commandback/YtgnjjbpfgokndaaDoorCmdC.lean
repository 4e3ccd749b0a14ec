/-
  Walks of layer 10: Text.
-/
import Derived.Test.YtgnjjbpfgokndaaDoorCmdB
namespace Go.Proofs.YtgnjjbpfgokndaaDoor
open Go.RowKit

/-- a word's cells -/
def CK (b : Nat) (v g n k : Int) (u f t c : ByteArray) (z a : Int) (W : World) : Prop :=
  W.cell? ⟨b, 0, none⟩ = some (.int .i64 v) ∧ W.cell? ⟨b, 1, none⟩ = some (.int .i64 g) ∧ W.cell? ⟨b, 2, none⟩ = some (.int .i64 n) ∧ W.cell? ⟨b, 3, none⟩ = some (.int .i64 k) ∧ W.cell? ⟨b, 4, none⟩ = some (.string u) ∧ W.cell? ⟨b, 5, none⟩ = some (.string f) ∧ W.cell? ⟨b, 6, none⟩ = some (.string t) ∧ W.cell? ⟨b, 7, none⟩ = some (.string c) ∧ W.cell? ⟨b, 8, none⟩ = some (.int .i64 z) ∧ W.cell? ⟨b, 9, none⟩ = some (.int .i64 a)
theorem CK.below {b B : Nat} {v g n k : Int} {u f t c : ByteArray} {z a : Int} {W W' : World} (h : CK b v g n k u f t c z a W) (hb : Below B W W') (hB : b < B) : CK b v g n k u f t c z a W' := by
  have e (o : Nat) : W'.cell? ⟨b, o, none⟩ = W.cell? ⟨b, o, none⟩ := hb.cell (p := ⟨b, o, none⟩) hB
  unfold CK at *
  simp only [e]
  exact h
theorem hideC {p : Prop} (h : p) : Hid p := h
theorem ck_new (v g n k : Int) (u f t c : ByteArray) (z a : Int) (w : World) (ty : TypeId) : CK w.heap.size v g n k u f t c z a (w.alloc (.cells #[.int .i64 v, .int .i64 g, .int .i64 n, .int .i64 k, .string u, .string f, .string t, .string c, .int .i64 z, .int .i64 a] ty)) := by
  unfold CK
  refine ⟨?_, ?_, ?_, ?_, ?_, ?_, ?_, ?_, ?_, ?_⟩ <;> simp
theorem cchain {w0 w1 : World} {b : Nat} {v g n k : Int} {u f t c : ByteArray} {z a : Int} {F : Nat} {A : Array Value} {E : Ending} (h0 : CK b v g n k u f t c z a w0) (hb : b < w0.heap.size) (hW : Below w0.heap.size w0 w1)
    (hc : Calls Tryd.prog F A w1 fun e w' => e = E ∧ Below w1.heap.size w1 w') : Calls Tryd.prog F A w1 fun e w' => e = E ∧ Below w0.heap.size w0 w' ∧ b < w'.heap.size ∧ CK b v g n k u f t c z a w' :=
  hc.mono fun _ _ ⟨h1, h2⟩ => ⟨h1, hW.trans (h2.mono hW.size), Nat.lt_of_lt_of_le hb (hW.trans (h2.mono hW.size)).size, h0.below (hW.trans (h2.mono hW.size)) hb⟩
namespace Cmd
theorem text_bad {c : Cw} (h : (jobOf c.v c.j && atOf c.v c.a) = false) : text c = ([], 1) := by unfold text; rw [if_pos h]
theorem text_ok1 {c : Cw} (h : jobOf c.v c.j = true) (h' : atOf c.v c.a = true) (hv : c.v = 1 ∨ c.v = 2) : text c = Job.text c.j := by unfold text; rw [if_neg (by rw [h, h']; decide), if_pos hv]
theorem text_num {v : Int} {j : Job.Jb} {a : Int} (h : jobOf v j = true) (h' : atOf v a = true) :
    (v = 3 → text ⟨v, j, a⟩ = ([72], 0)) ∧ (v = 4 → text ⟨v, j, a⟩ = (89 :: 32 :: Lib.itoa a, 0)) ∧ (v = 5 → text ⟨v, j, a⟩ = (78 :: 32 :: Lib.itoa a, 0)) ∧ (v = 6 → text ⟨v, j, a⟩ = ([67], 0)) ∧ (v = 7 → text ⟨v, j, a⟩ = (70 :: 32 :: Lib.itoa a, 0)) := by
  unfold text
  dsimp only
  rw [if_neg (by rw [h, h']; decide)]
  refine ⟨?_, ?_, ?_, ?_, ?_⟩ <;> rintro rfl <;> simp
theorem text_oth {v : Int} {j : Job.Jb} {a : Int} (h1 : v ≠ 1) (h2 : v ≠ 2) (h3 : v ≠ 3) (h4 : v ≠ 4) (h5 : v ≠ 5) (h6 : v ≠ 6) (h7 : v ≠ 7) : text ⟨v, j, a⟩ = ([], 1) := by
  unfold text
  dsimp only
  simp [h1, h2, h3, h4, h5, h6, h7]
theorem at_bd {v a : Int} (h : atOf v a = true) : 0 ≤ a ∧ a ≤ 6000 := by
  unfold atOf at h
  rw [Bool.and_eq_true, decide_eq_true_eq, decide_eq_true_eq] at h
  refine ⟨h.1, ?_⟩
  have : most v ≤ 6000 := by unfold most; split; omega; split <;> omega
  omega
end Cmd

set_option maxHeartbeats 4000000 in
set_option maxRecDepth 100000 in
theorem ctext_any (v g n k : Int) (u f t c : ByteArray) (z a : Int) (w : World) (hw : Ok w) (hu : u.size ≤ maxLen) (hf : f.size ≤ maxLen) (ht : t.size ≤ maxLen) (hc : c.size ≤ maxLen) :
    Calls Tryd.prog 10 #[.agg #[.int .i64 v, .int .i64 g, .int .i64 n, .int .i64 k, .string u, .string f, .string t, .string c, .int .i64 z, .int .i64 a]] w fun e w' => e = .returned (.tuple #[.string ⟨(Cmd.text ⟨v, ⟨g, n, k, u, f, t, c, z⟩, a⟩).1.toArray⟩, .int .i64 ((Cmd.text ⟨v, ⟨g, n, k, u, f, t, c, z⟩, a⟩).2 : Nat)]) ∧ Below w.heap.size w w' := by
  have hb0 : w.heap.size < (w.alloc (.cells #[.int .i64 v, .int .i64 g, .int .i64 n, .int .i64 k, .string u, .string f, .string t, .string c, .int .i64 z, .int .i64 a] 27)).heap.size := by simp
  have hk0 : CK w.heap.size v g n k u f t c z a (w.alloc (.cells #[.int .i64 v, .int .i64 g, .int .i64 n, .int .i64 k, .string u, .string f, .string t, .string c, .int .i64 z, .int .i64 a] 27)) := ck_new v g n k u f t c z a w _
  have bw : Below w.heap.size w (w.alloc (.cells #[.int .i64 v, .int .i64 g, .int .i64 n, .int .i64 k, .string u, .string f, .string t, .string c, .int .i64 z, .int .i64 a] 27)) := below_alloc1 w _
  have hw0 : Ok (w.alloc (.cells #[.int .i64 v, .int .i64 g, .int .i64 n, .int .i64 k, .string u, .string f, .string t, .string c, .int .i64 z, .int .i64 a] 27)) := hw.below bw
  have HJ : Hid (∀ W, Below (w.alloc (.cells #[.int .i64 v, .int .i64 g, .int .i64 n, .int .i64 k, .string u, .string f, .string t, .string c, .int .i64 z, .int .i64 a] 27)).heap.size (w.alloc (.cells #[.int .i64 v, .int .i64 g, .int .i64 n, .int .i64 k, .string u, .string f, .string t, .string c, .int .i64 z, .int .i64 a] 27)) W → Calls Tryd.prog 14 #[.int .i64 v, .agg #[.int .i64 g, .int .i64 n, .int .i64 k, .string u, .string f, .string t, .string c, .int .i64 z]] W fun e w' => e = .returned (.bool (Cmd.jobOf v ⟨g, n, k, u, f, t, c, z⟩)) ∧ Below (w.alloc (.cells #[.int .i64 v, .int .i64 g, .int .i64 n, .int .i64 k, .string u, .string f, .string t, .string c, .int .i64 z, .int .i64 a] 27)).heap.size (w.alloc (.cells #[.int .i64 v, .int .i64 g, .int .i64 n, .int .i64 k, .string u, .string f, .string t, .string c, .int .i64 z, .int .i64 a] 27)) w' ∧ w.heap.size < w'.heap.size ∧ CK w.heap.size v g n k u f t c z a w') := fun W hW => cchain hk0 hb0 hW (isJobOf_any v g n k u f t c z W)
  have HA : Hid (∀ W, Calls Tryd.prog 15 #[.int .i64 v, .int .i64 a] W fun e w' => e = .returned (.bool (Cmd.atOf v a)) ∧ w' = W) := fun W => isAtOf_any v a W
  have HT : Hid (∀ W, Below (w.alloc (.cells #[.int .i64 v, .int .i64 g, .int .i64 n, .int .i64 k, .string u, .string f, .string t, .string c, .int .i64 z, .int .i64 a] 27)).heap.size (w.alloc (.cells #[.int .i64 v, .int .i64 g, .int .i64 n, .int .i64 k, .string u, .string f, .string t, .string c, .int .i64 z, .int .i64 a] 27)) W → Calls Tryd.prog 16 #[.agg #[.int .i64 g, .int .i64 n, .int .i64 k, .string u, .string f, .string t, .string c, .int .i64 z]] W fun e w' => e = .returned (.tuple #[.string ⟨(Job.text ⟨g, n, k, u, f, t, c, z⟩).1.toArray⟩, .int .i64 ((Job.text ⟨g, n, k, u, f, t, c, z⟩).2 : Nat)]) ∧ Below (w.alloc (.cells #[.int .i64 v, .int .i64 g, .int .i64 n, .int .i64 k, .string u, .string f, .string t, .string c, .int .i64 z, .int .i64 a] 27)).heap.size (w.alloc (.cells #[.int .i64 v, .int .i64 g, .int .i64 n, .int .i64 k, .string u, .string f, .string t, .string c, .int .i64 z, .int .i64 a] 27)) w' ∧ w.heap.size < w'.heap.size ∧ CK w.heap.size v g n k u f t c z a w') := fun W hW => cchain hk0 hb0 hW (jtext_any g n k u f t c z W (hw0.below hW) hu hf ht hc)
  have HN : Hid (0 ≤ a → a ≤ 6000 → ∀ (b : UInt8) W, Below (w.alloc (.cells #[.int .i64 v, .int .i64 g, .int .i64 n, .int .i64 k, .string u, .string f, .string t, .string c, .int .i64 z, .int .i64 a] 27)).heap.size (w.alloc (.cells #[.int .i64 v, .int .i64 g, .int .i64 n, .int .i64 k, .string u, .string f, .string t, .string c, .int .i64 z, .int .i64 a] 27)) W → Calls Tryd.prog 17 #[.string ⟨#[b]⟩, .int .i64 a] W fun e w' => e = .returned (.string ⟨(b :: 32 :: Lib.itoa a).toArray⟩) ∧ Below (w.alloc (.cells #[.int .i64 v, .int .i64 g, .int .i64 n, .int .i64 k, .string u, .string f, .string t, .string c, .int .i64 z, .int .i64 a] 27)).heap.size (w.alloc (.cells #[.int .i64 v, .int .i64 g, .int .i64 n, .int .i64 k, .string u, .string f, .string t, .string c, .int .i64 z, .int .i64 a] 27)) w' ∧ w.heap.size < w'.heap.size ∧ CK w.heap.size v g n k u f t c z a w') := fun h0 h1 b W hW => cchain hk0 hb0 hW (numbered_any b a W (hw0.below hW) (by omega) (by omega))
  obtain ⟨j0, j1, j2, j3, j4, j5, j6, j7, j8, j9⟩ := hk0
  clear hw hw0 hu hf ht hc
  cases hj : Cmd.jobOf v ⟨g, n, k, u, f, t, c, z⟩
  · have hr : Hid (Cmd.text ⟨v, ⟨g, n, k, u, f, t, c, z⟩, a⟩ = ([], 1)) := Cmd.text_bad (by rw [hj]; rfl)
    rw [hj] at HJ
    clear hj HT HA HN
    go_enter Tryd.func10, Tryd.ntmps10
    go_wp2_with (first
      | (go_at_call 14; refine (HJ.out _ (by first | exact Below.refl _ _ | assumption)).mono ?_; rintro e w' ⟨rfl, b', z', i0, i1, i2, i3, i4, i5, i6, i7, i8, i9⟩)
      | (go_at_call 15; refine (HA.out _).mono ?_; rintro e w1 ⟨rfl, rfl⟩)
      | (go_at_call 16; refine (HT.out _ (by assumption)).mono ?_; rintro e w' ⟨rfl, b', z', i0, i1, i2, i3, i4, i5, i6, i7, i8, i9⟩)
      | (go_at_call 17; refine (HN.out _ _ (by assumption)).mono ?_; rintro e w' ⟨rfl, b', z', i0, i1, i2, i3, i4, i5, i6, i7, i8, i9⟩))
    go_ret2
    exact ⟨by rw [hr.out]; rfl, bw.trans (Below.mono (by assumption) bw.size)⟩
  cases ha : Cmd.atOf v a
  · have hr : Hid (Cmd.text ⟨v, ⟨g, n, k, u, f, t, c, z⟩, a⟩ = ([], 1)) := Cmd.text_bad (by rw [ha]; exact Bool.and_false _)
    rw [hj] at HJ
    rw [ha] at HA
    clear hj ha HT HN
    go_enter Tryd.func10, Tryd.ntmps10
    go_wp2_with (first
      | (go_at_call 14; refine (HJ.out _ (by first | exact Below.refl _ _ | assumption)).mono ?_; rintro e w' ⟨rfl, b', z', i0, i1, i2, i3, i4, i5, i6, i7, i8, i9⟩)
      | (go_at_call 15; refine (HA.out _).mono ?_; rintro e w1 ⟨rfl, rfl⟩)
      | (go_at_call 16; refine (HT.out _ (by assumption)).mono ?_; rintro e w' ⟨rfl, b', z', i0, i1, i2, i3, i4, i5, i6, i7, i8, i9⟩)
      | (go_at_call 17; refine (HN.out _ _ (by assumption)).mono ?_; rintro e w' ⟨rfl, b', z', i0, i1, i2, i3, i4, i5, i6, i7, i8, i9⟩))
    go_ret2
    exact ⟨by rw [hr.out]; rfl, bw.trans (Below.mono (by assumption) bw.size)⟩
  have hbd := Cmd.at_bd ha
  have HN := HN.out hbd.1 hbd.2
  replace HN := hideC HN
  clear hbd
  by_cases h1 : v = 1
  · subst h1
    have hr : Hid (Cmd.text ⟨1, ⟨g, n, k, u, f, t, c, z⟩, a⟩ = Job.text ⟨g, n, k, u, f, t, c, z⟩) := Cmd.text_ok1 hj ha (.inl rfl)
    rw [hj] at HJ
    rw [ha] at HA
    clear hj ha HN
    generalize Job.text ⟨g, n, k, u, f, t, c, z⟩ = q at *
    go_enter Tryd.func10, Tryd.ntmps10
    go_wp2_with (first
      | (go_at_call 14; refine (HJ.out _ (by first | exact Below.refl _ _ | assumption)).mono ?_; rintro e w' ⟨rfl, b', z', i0, i1, i2, i3, i4, i5, i6, i7, i8, i9⟩)
      | (go_at_call 15; refine (HA.out _).mono ?_; rintro e w1 ⟨rfl, rfl⟩)
      | (go_at_call 16; refine (HT.out _ (by assumption)).mono ?_; rintro e w' ⟨rfl, b', z', i0, i1, i2, i3, i4, i5, i6, i7, i8, i9⟩)
      | (go_at_call 17; refine (HN.out _ _ (by assumption)).mono ?_; rintro e w' ⟨rfl, b', z', i0, i1, i2, i3, i4, i5, i6, i7, i8, i9⟩))
    go_ret2
    exact ⟨by rw [hr.out]; rfl, bw.trans (Below.mono (by assumption) bw.size)⟩
  by_cases h2 : v = 2
  · subst h2
    have hr : Hid (Cmd.text ⟨2, ⟨g, n, k, u, f, t, c, z⟩, a⟩ = Job.text ⟨g, n, k, u, f, t, c, z⟩) := Cmd.text_ok1 hj ha (.inr rfl)
    rw [hj] at HJ
    rw [ha] at HA
    clear hj ha HN h1
    generalize Job.text ⟨g, n, k, u, f, t, c, z⟩ = q at *
    go_enter Tryd.func10, Tryd.ntmps10
    go_wp2_with (first
      | (go_at_call 14; refine (HJ.out _ (by first | exact Below.refl _ _ | assumption)).mono ?_; rintro e w' ⟨rfl, b', z', i0, i1, i2, i3, i4, i5, i6, i7, i8, i9⟩)
      | (go_at_call 15; refine (HA.out _).mono ?_; rintro e w1 ⟨rfl, rfl⟩)
      | (go_at_call 16; refine (HT.out _ (by assumption)).mono ?_; rintro e w' ⟨rfl, b', z', i0, i1, i2, i3, i4, i5, i6, i7, i8, i9⟩)
      | (go_at_call 17; refine (HN.out _ _ (by assumption)).mono ?_; rintro e w' ⟨rfl, b', z', i0, i1, i2, i3, i4, i5, i6, i7, i8, i9⟩))
    go_ret2
    exact ⟨by rw [hr.out]; rfl, bw.trans (Below.mono (by assumption) bw.size)⟩
  obtain ⟨t3, t4, t5, t6, t7⟩ := Cmd.text_num hj ha
  clear HT
  by_cases h3 : v = 3
  · have hr : Hid (Cmd.text ⟨v, ⟨g, n, k, u, f, t, c, z⟩, a⟩ = ([72], 0)) := t3 h3
    subst h3
    rw [hj] at HJ
    rw [ha] at HA
    clear hj ha t3 t4 t5 t6 t7 h1 h2
    clear HN
    go_enter Tryd.func10, Tryd.ntmps10
    go_wp2_with (first
      | (go_at_call 14; refine (HJ.out _ (by first | exact Below.refl _ _ | assumption)).mono ?_; rintro e w' ⟨rfl, b', z', i0, i1, i2, i3, i4, i5, i6, i7, i8, i9⟩)
      | (go_at_call 15; refine (HA.out _).mono ?_; rintro e w1 ⟨rfl, rfl⟩)
      | (go_at_call 16; refine (HT.out _ (by assumption)).mono ?_; rintro e w' ⟨rfl, b', z', i0, i1, i2, i3, i4, i5, i6, i7, i8, i9⟩)
      | (go_at_call 17; refine (HN.out _ _ (by assumption)).mono ?_; rintro e w' ⟨rfl, b', z', i0, i1, i2, i3, i4, i5, i6, i7, i8, i9⟩))
    go_ret2
    exact ⟨by rw [hr.out]; rfl, bw.trans (Below.mono (by assumption) bw.size)⟩
  by_cases h4 : v = 4
  · have hr : Hid (Cmd.text ⟨v, ⟨g, n, k, u, f, t, c, z⟩, a⟩ = (89 :: 32 :: Lib.itoa a, 0)) := t4 h4
    subst h4
    rw [hj] at HJ
    rw [ha] at HA
    clear hj ha t3 t4 t5 t6 t7 h1 h2 h3
    have HN := HN.out 89
    replace HN := hideC HN
    go_enter Tryd.func10, Tryd.ntmps10
    go_wp2_with (first
      | (go_at_call 14; refine (HJ.out _ (by first | exact Below.refl _ _ | assumption)).mono ?_; rintro e w' ⟨rfl, b', z', i0, i1, i2, i3, i4, i5, i6, i7, i8, i9⟩)
      | (go_at_call 15; refine (HA.out _).mono ?_; rintro e w1 ⟨rfl, rfl⟩)
      | (go_at_call 16; refine (HT.out _ (by assumption)).mono ?_; rintro e w' ⟨rfl, b', z', i0, i1, i2, i3, i4, i5, i6, i7, i8, i9⟩)
      | (go_at_call 17; refine (HN.out _ (by assumption)).mono ?_; rintro e w' ⟨rfl, b', z', i0, i1, i2, i3, i4, i5, i6, i7, i8, i9⟩))
    go_ret2
    exact ⟨by rw [hr.out]; rfl, bw.trans (Below.mono (by assumption) bw.size)⟩
  by_cases h5 : v = 5
  · have hr : Hid (Cmd.text ⟨v, ⟨g, n, k, u, f, t, c, z⟩, a⟩ = (78 :: 32 :: Lib.itoa a, 0)) := t5 h5
    subst h5
    rw [hj] at HJ
    rw [ha] at HA
    clear hj ha t3 t4 t5 t6 t7 h1 h2 h3 h4
    have HN := HN.out 78
    replace HN := hideC HN
    go_enter Tryd.func10, Tryd.ntmps10
    go_wp2_with (first
      | (go_at_call 14; refine (HJ.out _ (by first | exact Below.refl _ _ | assumption)).mono ?_; rintro e w' ⟨rfl, b', z', i0, i1, i2, i3, i4, i5, i6, i7, i8, i9⟩)
      | (go_at_call 15; refine (HA.out _).mono ?_; rintro e w1 ⟨rfl, rfl⟩)
      | (go_at_call 16; refine (HT.out _ (by assumption)).mono ?_; rintro e w' ⟨rfl, b', z', i0, i1, i2, i3, i4, i5, i6, i7, i8, i9⟩)
      | (go_at_call 17; refine (HN.out _ (by assumption)).mono ?_; rintro e w' ⟨rfl, b', z', i0, i1, i2, i3, i4, i5, i6, i7, i8, i9⟩))
    go_ret2
    exact ⟨by rw [hr.out]; rfl, bw.trans (Below.mono (by assumption) bw.size)⟩
  by_cases h6 : v = 6
  · have hr : Hid (Cmd.text ⟨v, ⟨g, n, k, u, f, t, c, z⟩, a⟩ = ([67], 0)) := t6 h6
    subst h6
    rw [hj] at HJ
    rw [ha] at HA
    clear hj ha t3 t4 t5 t6 t7 h1 h2 h3 h4 h5
    clear HN
    go_enter Tryd.func10, Tryd.ntmps10
    go_wp2_with (first
      | (go_at_call 14; refine (HJ.out _ (by first | exact Below.refl _ _ | assumption)).mono ?_; rintro e w' ⟨rfl, b', z', i0, i1, i2, i3, i4, i5, i6, i7, i8, i9⟩)
      | (go_at_call 15; refine (HA.out _).mono ?_; rintro e w1 ⟨rfl, rfl⟩)
      | (go_at_call 16; refine (HT.out _ (by assumption)).mono ?_; rintro e w' ⟨rfl, b', z', i0, i1, i2, i3, i4, i5, i6, i7, i8, i9⟩)
      | (go_at_call 17; refine (HN.out _ _ (by assumption)).mono ?_; rintro e w' ⟨rfl, b', z', i0, i1, i2, i3, i4, i5, i6, i7, i8, i9⟩))
    go_ret2
    exact ⟨by rw [hr.out]; rfl, bw.trans (Below.mono (by assumption) bw.size)⟩
  by_cases h7 : v = 7
  · have hr : Hid (Cmd.text ⟨v, ⟨g, n, k, u, f, t, c, z⟩, a⟩ = (70 :: 32 :: Lib.itoa a, 0)) := t7 h7
    subst h7
    rw [hj] at HJ
    rw [ha] at HA
    clear hj ha t3 t4 t5 t6 t7 h1 h2 h3 h4 h5 h6
    have HN := HN.out 70
    replace HN := hideC HN
    go_enter Tryd.func10, Tryd.ntmps10
    go_wp2_with (first
      | (go_at_call 14; refine (HJ.out _ (by first | exact Below.refl _ _ | assumption)).mono ?_; rintro e w' ⟨rfl, b', z', i0, i1, i2, i3, i4, i5, i6, i7, i8, i9⟩)
      | (go_at_call 15; refine (HA.out _).mono ?_; rintro e w1 ⟨rfl, rfl⟩)
      | (go_at_call 16; refine (HT.out _ (by assumption)).mono ?_; rintro e w' ⟨rfl, b', z', i0, i1, i2, i3, i4, i5, i6, i7, i8, i9⟩)
      | (go_at_call 17; refine (HN.out _ (by assumption)).mono ?_; rintro e w' ⟨rfl, b', z', i0, i1, i2, i3, i4, i5, i6, i7, i8, i9⟩))
    go_ret2
    exact ⟨by rw [hr.out]; rfl, bw.trans (Below.mono (by assumption) bw.size)⟩
  have hr : Hid (Cmd.text ⟨v, ⟨g, n, k, u, f, t, c, z⟩, a⟩ = ([], 1)) := Cmd.text_oth h1 h2 h3 h4 h5 h6 h7
  rw [hj] at HJ
  rw [ha] at HA
  have d1 := beq0 h1; have d2 := beq0 h2; have d3 := beq0 h3; have d4 := beq0 h4; have d5 := beq0 h5; have d6 := beq0 h6; have d7 := beq0 h7
  clear hj ha HN t3 t4 t5 t6 t7 h1 h2 h3 h4 h5 h6 h7
  go_enter Tryd.func10, Tryd.ntmps10
  go_wp2_with (first
    | (go_at_call 14; refine (HJ.out _ (by first | exact Below.refl _ _ | assumption)).mono ?_; rintro e w' ⟨rfl, b', z', i0, i1, i2, i3, i4, i5, i6, i7, i8, i9⟩)
    | (go_at_call 15; refine (HA.out _).mono ?_; rintro e w1 ⟨rfl, rfl⟩)
    | (go_at_call 16; refine (HT.out _ (by assumption)).mono ?_; rintro e w' ⟨rfl, b', z', i0, i1, i2, i3, i4, i5, i6, i7, i8, i9⟩)
    | (go_at_call 17; refine (HN.out _ _ (by assumption)).mono ?_; rintro e w' ⟨rfl, b', z', i0, i1, i2, i3, i4, i5, i6, i7, i8, i9⟩))
  go_ret2
  exact ⟨by rw [hr.out]; rfl, bw.trans (Below.mono (by assumption) bw.size)⟩
end Go.Proofs.YtgnjjbpfgokndaaDoor
