/-
  Walks of the laws of layer 5: JobApart.
-/
import Derived.Test.YthjlhbbhdliffaaDoorLawJ2
namespace Go.Proofs.YthjlhbbhdliffaaDoor
open Go.RowKit

theorem chain3 {w0 w1 : World} {b b2 : Nat} {g n k z : Int} {u f t c : ByteArray} {g' n' k' z' : Int} {u' f' t' c' : ByteArray} {F : Nat} {A : Array Value} {E : Ending} (h0 : Keeps b g n k u f t c z w0) (h2 : Keeps b2 g' n' k' u' f' t' c' z' w0) (hb : b < b2) (hb2 : b2 < w0.heap.size) (hW : Below w0.heap.size w0 w1)
    (hc : Calls Tryd.prog F A w1 fun e w' => e = E ∧ Below w1.heap.size w1 w') : Calls Tryd.prog F A w1 fun e w' => e = E ∧ Below w0.heap.size w0 w' ∧ b2 < w'.heap.size ∧ Keeps b g n k u f t c z w' ∧ Keeps b2 g' n' k' u' f' t' c' z' w' :=
  hc.mono fun _ _ ⟨e1, e2⟩ => ⟨e1, hW.trans (e2.mono hW.size), Nat.lt_of_lt_of_le hb2 (hW.trans (e2.mono hW.size)).size, h0.below (hW.trans (e2.mono hW.size)) (by omega), h2.below (hW.trans (e2.mono hW.size)) hb2⟩
def TwoLong (w0 : World) (e : Ending) (w' : World) : Prop := ∃ L : Bool, e = .returned (.bool L) ∧ Below w0.heap.size w0 w'
theorem long_two (g n k : Int) (u f t c : ByteArray) (z : Int) (g' n' k' : Int) (u' f' t' c' : ByteArray) (z' : Int) (w : World) (m : Nat) (hm : w.heap.size = m) :
    Calls Tryd.prog 8 #[.slice (some ⟨m, 0, none⟩) 2 2] (w.alloc (.cells #[.int .i64 g, .int .i64 n, .int .i64 k, .string u, .string f, .string t, .string c, .int .i64 z, .int .i64 g', .int .i64 n', .int .i64 k', .string u', .string f', .string t', .string c', .int .i64 z'] 25)) fun e w' => TwoLong w e w' := by
  subst hm
  refine (long_any (some ⟨w.heap.size, 0, none⟩) 2 [⟨g, n, k, u, f, t, c, z⟩, ⟨g', n', k', u', f', t', c', z'⟩] (w.alloc (.cells #[.int .i64 g, .int .i64 n, .int .i64 k, .string u, .string f, .string t, .string c, .int .i64 z, .int .i64 g', .int .i64 n', .int .i64 k', .string u', .string f', .string t', .string c', .int .i64 z'] 25)) (by simp [maxLen]) (.inr ⟨w.heap.size, 0, rfl, by simp, fun i hi => ?_⟩)).mono ?_
  · obtain rfl | rfl : i = 0 ∨ i = 1 := by simp at hi; omega
    · simp [JAt]
    · simp [JAt]
  · rintro e w' ⟨L, rfl, _, b⟩
    exact ⟨L, rfl, (below_alloc1 w _).trans (b.mono (below_alloc1 w _).size)⟩

set_option maxHeartbeats 8000000 in
set_option maxRecDepth 100000 in
theorem apart_walk (g : Int) (n : Int) (k : Int) (u : ByteArray) (hu : u.size ≤ maxLen) (f : ByteArray) (hf : f.size ≤ maxLen) (t : ByteArray) (ht : t.size ≤ maxLen) (c : ByteArray) (hc : c.size ≤ maxLen) (z : Int)
    (g' : Int) (n' : Int) (k' : Int) (u' : ByteArray) (hu' : u'.size ≤ maxLen) (f' : ByteArray) (hf' : f'.size ≤ maxLen) (t' : ByteArray) (ht' : t'.size ≤ maxLen) (c' : ByteArray) (hc' : c'.size ≤ maxLen) (z' : Int) (w : World) (hw : Ok w) :
    Calls Tryd.prog 6 #[.agg #[.int .i64 g, .int .i64 n, .int .i64 k, .string u, .string f, .string t, .string c, .int .i64 z], .agg #[.int .i64 g', .int .i64 n', .int .i64 k', .string u', .string f', .string t', .string c', .int .i64 z']] w fun e w' => e = .returned (.bool true) ∧ Below w.heap.size w w' := by
  have bw : Below w.heap.size w ((w.alloc (.cells #[.int .i64 g, .int .i64 n, .int .i64 k, .string u, .string f, .string t, .string c, .int .i64 z] 25)).alloc (.cells #[.int .i64 g', .int .i64 n', .int .i64 k', .string u', .string f', .string t', .string c', .int .i64 z'] 25)) := below_alloc2 w _ _
  have hk1 : Keeps w.heap.size g n k u f t c z ((w.alloc (.cells #[.int .i64 g, .int .i64 n, .int .i64 k, .string u, .string f, .string t, .string c, .int .i64 z] 25)).alloc (.cells #[.int .i64 g', .int .i64 n', .int .i64 k', .string u', .string f', .string t', .string c', .int .i64 z'] 25)) := (keeps_new g n k u f t c z w _).below (below_alloc1 _ _) (by simp)
  have hk2 : Keeps (w.heap.size + 1) g' n' k' u' f' t' c' z' ((w.alloc (.cells #[.int .i64 g, .int .i64 n, .int .i64 k, .string u, .string f, .string t, .string c, .int .i64 z] 25)).alloc (.cells #[.int .i64 g', .int .i64 n', .int .i64 k', .string u', .string f', .string t', .string c', .int .i64 z'] 25)) := by
    have := keeps_new g' n' k' u' f' t' c' z' (w.alloc (.cells #[.int .i64 g, .int .i64 n, .int .i64 k, .string u, .string f, .string t, .string c, .int .i64 z] 25)) 25
    rw [show (w.alloc (.cells #[.int .i64 g, .int .i64 n, .int .i64 k, .string u, .string f, .string t, .string c, .int .i64 z] 25)).heap.size = w.heap.size + 1 by simp] at this
    exact this
  have hb2 : w.heap.size + 1 < ((w.alloc (.cells #[.int .i64 g, .int .i64 n, .int .i64 k, .string u, .string f, .string t, .string c, .int .i64 z] 25)).alloc (.cells #[.int .i64 g', .int .i64 n', .int .i64 k', .string u', .string f', .string t', .string c', .int .i64 z'] 25)).heap.size := by simp
  have hw0 : Ok ((w.alloc (.cells #[.int .i64 g, .int .i64 n, .int .i64 k, .string u, .string f, .string t, .string c, .int .i64 z] 25)).alloc (.cells #[.int .i64 g', .int .i64 n', .int .i64 k', .string u', .string f', .string t', .string c', .int .i64 z'] 25)) := hw.below bw
  have HL : Hid (Calls Tryd.prog 8 #[.slice (some ⟨w.heap.size + 1 + 1, 0, none⟩) 2 2] (((w.alloc (.cells #[.int .i64 g, .int .i64 n, .int .i64 k, .string u, .string f, .string t, .string c, .int .i64 z] 25)).alloc (.cells #[.int .i64 g', .int .i64 n', .int .i64 k', .string u', .string f', .string t', .string c', .int .i64 z'] 25)).alloc (.cells #[.int .i64 g, .int .i64 n, .int .i64 k, .string u, .string f, .string t, .string c, .int .i64 z, .int .i64 g', .int .i64 n', .int .i64 k', .string u', .string f', .string t', .string c', .int .i64 z'] 25)) fun e w' => TwoLong ((w.alloc (.cells #[.int .i64 g, .int .i64 n, .int .i64 k, .string u, .string f, .string t, .string c, .int .i64 z] 25)).alloc (.cells #[.int .i64 g', .int .i64 n', .int .i64 k', .string u', .string f', .string t', .string c', .int .i64 z'] 25)) e w') :=
    long_two g n k u f t c z g' n' k' u' f' t' c' z' ((w.alloc (.cells #[.int .i64 g, .int .i64 n, .int .i64 k, .string u, .string f, .string t, .string c, .int .i64 z] 25)).alloc (.cells #[.int .i64 g', .int .i64 n', .int .i64 k', .string u', .string f', .string t', .string c', .int .i64 z'] 25)) _ (by simp)
  have HA : Hid (∀ W, Below ((w.alloc (.cells #[.int .i64 g, .int .i64 n, .int .i64 k, .string u, .string f, .string t, .string c, .int .i64 z] 25)).alloc (.cells #[.int .i64 g', .int .i64 n', .int .i64 k', .string u', .string f', .string t', .string c', .int .i64 z'] 25)).heap.size ((w.alloc (.cells #[.int .i64 g, .int .i64 n, .int .i64 k, .string u, .string f, .string t, .string c, .int .i64 z] 25)).alloc (.cells #[.int .i64 g', .int .i64 n', .int .i64 k', .string u', .string f', .string t', .string c', .int .i64 z'] 25)) W → Calls Tryd.prog 9 #[] W fun e w' => e = .returned (.bool true) ∧ Below ((w.alloc (.cells #[.int .i64 g, .int .i64 n, .int .i64 k, .string u, .string f, .string t, .string c, .int .i64 z] 25)).alloc (.cells #[.int .i64 g', .int .i64 n', .int .i64 k', .string u', .string f', .string t', .string c', .int .i64 z'] 25)).heap.size ((w.alloc (.cells #[.int .i64 g, .int .i64 n, .int .i64 k, .string u, .string f, .string t, .string c, .int .i64 z] 25)).alloc (.cells #[.int .i64 g', .int .i64 n', .int .i64 k', .string u', .string f', .string t', .string c', .int .i64 z'] 25)) w' ∧ w.heap.size + 1 < w'.heap.size ∧ Keeps w.heap.size g n k u f t c z w' ∧ Keeps (w.heap.size + 1) g' n' k' u' f' t' c' z' w') := fun W hW => chain3 hk1 hk2 (by omega) hb2 hW (awake_any W (hw0.below hW))
  have HT : Hid (∀ W, Below ((w.alloc (.cells #[.int .i64 g, .int .i64 n, .int .i64 k, .string u, .string f, .string t, .string c, .int .i64 z] 25)).alloc (.cells #[.int .i64 g', .int .i64 n', .int .i64 k', .string u', .string f', .string t', .string c', .int .i64 z'] 25)).heap.size ((w.alloc (.cells #[.int .i64 g, .int .i64 n, .int .i64 k, .string u, .string f, .string t, .string c, .int .i64 z] 25)).alloc (.cells #[.int .i64 g', .int .i64 n', .int .i64 k', .string u', .string f', .string t', .string c', .int .i64 z'] 25)) W → Calls Tryd.prog 10 #[.agg #[.int .i64 g, .int .i64 n, .int .i64 k, .string u, .string f, .string t, .string c, .int .i64 z]] W fun e w' => e = .returned (.tuple #[.string ⟨(Job.text ⟨g, n, k, u, f, t, c, z⟩).1.toArray⟩, .int .i64 ((Job.text ⟨g, n, k, u, f, t, c, z⟩).2 : Nat)]) ∧ Below ((w.alloc (.cells #[.int .i64 g, .int .i64 n, .int .i64 k, .string u, .string f, .string t, .string c, .int .i64 z] 25)).alloc (.cells #[.int .i64 g', .int .i64 n', .int .i64 k', .string u', .string f', .string t', .string c', .int .i64 z'] 25)).heap.size ((w.alloc (.cells #[.int .i64 g, .int .i64 n, .int .i64 k, .string u, .string f, .string t, .string c, .int .i64 z] 25)).alloc (.cells #[.int .i64 g', .int .i64 n', .int .i64 k', .string u', .string f', .string t', .string c', .int .i64 z'] 25)) w' ∧ w.heap.size + 1 < w'.heap.size ∧ Keeps w.heap.size g n k u f t c z w' ∧ Keeps (w.heap.size + 1) g' n' k' u' f' t' c' z' w') := fun W hW => chain3 hk1 hk2 (by omega) hb2 hW (jtext_any g n k u f t c z W (hw0.below hW) hu hf ht hc)
  have HR : Hid (∀ W, Below ((w.alloc (.cells #[.int .i64 g, .int .i64 n, .int .i64 k, .string u, .string f, .string t, .string c, .int .i64 z] 25)).alloc (.cells #[.int .i64 g', .int .i64 n', .int .i64 k', .string u', .string f', .string t', .string c', .int .i64 z'] 25)).heap.size ((w.alloc (.cells #[.int .i64 g, .int .i64 n, .int .i64 k, .string u, .string f, .string t, .string c, .int .i64 z] 25)).alloc (.cells #[.int .i64 g', .int .i64 n', .int .i64 k', .string u', .string f', .string t', .string c', .int .i64 z'] 25)) W → Calls Tryd.prog 10 #[.agg #[.int .i64 g', .int .i64 n', .int .i64 k', .string u', .string f', .string t', .string c', .int .i64 z']] W fun e w' => e = .returned (.tuple #[.string ⟨(Job.text ⟨g', n', k', u', f', t', c', z'⟩).1.toArray⟩, .int .i64 ((Job.text ⟨g', n', k', u', f', t', c', z'⟩).2 : Nat)]) ∧ Below ((w.alloc (.cells #[.int .i64 g, .int .i64 n, .int .i64 k, .string u, .string f, .string t, .string c, .int .i64 z] 25)).alloc (.cells #[.int .i64 g', .int .i64 n', .int .i64 k', .string u', .string f', .string t', .string c', .int .i64 z'] 25)).heap.size ((w.alloc (.cells #[.int .i64 g, .int .i64 n, .int .i64 k, .string u, .string f, .string t, .string c, .int .i64 z] 25)).alloc (.cells #[.int .i64 g', .int .i64 n', .int .i64 k', .string u', .string f', .string t', .string c', .int .i64 z'] 25)) w' ∧ w.heap.size + 1 < w'.heap.size ∧ Keeps w.heap.size g n k u f t c z w' ∧ Keeps (w.heap.size + 1) g' n' k' u' f' t' c' z' w') := fun W hW => chain3 hk1 hk2 (by omega) hb2 hW (jtext_any g' n' k' u' f' t' c' z' W (hw0.below hW) hu' hf' ht' hc')
  have hkk : Hid (Keeps w.heap.size g n k u f t c z ((w.alloc (.cells #[.int .i64 g, .int .i64 n, .int .i64 k, .string u, .string f, .string t, .string c, .int .i64 z] 25)).alloc (.cells #[.int .i64 g', .int .i64 n', .int .i64 k', .string u', .string f', .string t', .string c', .int .i64 z'] 25)) ∧ Keeps (w.heap.size + 1) g' n' k' u' f' t' c' z' ((w.alloc (.cells #[.int .i64 g, .int .i64 n, .int .i64 k, .string u, .string f, .string t, .string c, .int .i64 z] 25)).alloc (.cells #[.int .i64 g', .int .i64 n', .int .i64 k', .string u', .string f', .string t', .string c', .int .i64 z'] 25))) := ⟨hk1, hk2⟩
  obtain ⟨j0, j1, j2, j3, j4, j5, j6, j7⟩ := hk1
  obtain ⟨l0, l1, l2, l3, l4, l5, l6, l7⟩ := hk2
  have HX : Hid ((∃ q : Nat, q ≠ 0 ∧ (Job.text ⟨g, n, k, u, f, t, c, z⟩).2 = q) ∨ ((Job.text ⟨g, n, k, u, f, t, c, z⟩).2 = 0 ∧ ∃ q : Nat, q ≠ 0 ∧ (Job.text ⟨g', n', k', u', f', t', c', z'⟩).2 = q) ∨ ((Job.text ⟨g, n, k, u, f, t, c, z⟩).2 = 0 ∧ (Job.text ⟨g', n', k', u', f', t', c', z'⟩).2 = 0 ∧ ((Job.text ⟨g, n, k, u, f, t, c, z⟩).1 = (Job.text ⟨g', n', k', u', f', t', c', z'⟩).1 → (⟨g, n, k, u, f, t, c, z⟩ : Job.Jb) = ⟨g', n', k', u', f', t', c', z'⟩))) := by
    by_cases h : Job.chk ⟨g, n, k, u, f, t, c, z⟩ = 0
    · have e : Job.text ⟨g, n, k, u, f, t, c, z⟩ = (Job.txt ⟨g, n, k, u, f, t, c, z⟩, 0) := by unfold Job.text; rw [if_pos h]
      by_cases h' : Job.chk ⟨g', n', k', u', f', t', c', z'⟩ = 0
      · have e' : Job.text ⟨g', n', k', u', f', t', c', z'⟩ = (Job.txt ⟨g', n', k', u', f', t', c', z'⟩, 0) := by unfold Job.text; rw [if_pos h']
        rw [e, e']
        exact .inr (.inr ⟨rfl, rfl, fun q => Job.txt_inj h h' q⟩)
      · have e' : Job.text ⟨g', n', k', u', f', t', c', z'⟩ = ([], Job.chk ⟨g', n', k', u', f', t', c', z'⟩) := by unfold Job.text; rw [if_neg h']
        rw [e, e']
        exact .inr (.inl ⟨rfl, _, h', rfl⟩)
    · have e : Job.text ⟨g, n, k, u, f, t, c, z⟩ = ([], Job.chk ⟨g, n, k, u, f, t, c, z⟩) := by unfold Job.text; rw [if_neg h]
      rw [e]
      exact .inl ⟨_, h, rfl⟩
  clear hw hw0 hu hf ht hc hu' hf' ht' hc'
  go_enter Tryd.func6, Tryd.ntmps6
  go_wp2_with (go_at_call 8; refine HL.out.mono ?_)
  intro e w1 hl1
  obtain ⟨L, rfl, b1⟩ := hl1
  obtain ⟨i0, i1, i2, i3, i4, i5, i6, i7⟩ := hkk.out.1.below b1 (by omega)
  obtain ⟨m0, m1, m2, m3, m4, m5, m6, m7⟩ := hkk.out.2.below b1 hb2
  cases L
  · rcases HX.out with ⟨q, hq, hx⟩ | ⟨hx, q, hq, hx'⟩ | ⟨hx, hx', hx2⟩
    · obtain ⟨n1, n2, n3, n4⟩ := ne_facts hq
      rw [hx] at HT
      generalize (⟨(Job.text ⟨g, n, k, u, f, t, c, z⟩).1.toArray⟩ : ByteArray) = A at *
      generalize (⟨(Job.text ⟨g', n', k', u', f', t', c', z'⟩).1.toArray⟩ : ByteArray) = B at *
      generalize (Job.text ⟨g', n', k', u', f', t', c', z'⟩).2 = q' at *
      clear hx HX
      go_wp2_with (first
        | (go_at_call 9; refine (HA.out _ (by assumption)).mono ?_; rintro e w' ⟨rfl, b', y', ⟨i0, i1, i2, i3, i4, i5, i6, i7⟩, ⟨m0, m1, m2, m3, m4, m5, m6, m7⟩⟩)
        | (go_at_call 10; (first | with_reducible refine (HT.out _ (by assumption)).mono ?_ | with_reducible refine (HR.out _ (by assumption)).mono ?_); rintro e w' ⟨rfl, b', y', ⟨i0, i1, i2, i3, i4, i5, i6, i7⟩, ⟨m0, m1, m2, m3, m4, m5, m6, m7⟩⟩))
      go_ret
      exact ⟨rfl, bw.trans (Below.mono (by assumption) bw.size)⟩
    · obtain ⟨n1, n2, n3, n4⟩ := ne_facts hq
      rw [hx] at HT
      rw [hx'] at HR
      generalize (⟨(Job.text ⟨g, n, k, u, f, t, c, z⟩).1.toArray⟩ : ByteArray) = A at *
      generalize (⟨(Job.text ⟨g', n', k', u', f', t', c', z'⟩).1.toArray⟩ : ByteArray) = B at *
      clear hx hx' HX
      go_wp2_with (first
        | (go_at_call 9; refine (HA.out _ (by assumption)).mono ?_; rintro e w' ⟨rfl, b', y', ⟨i0, i1, i2, i3, i4, i5, i6, i7⟩, ⟨m0, m1, m2, m3, m4, m5, m6, m7⟩⟩)
        | (go_at_call 10; (first | with_reducible refine (HT.out _ (by assumption)).mono ?_ | with_reducible refine (HR.out _ (by assumption)).mono ?_); rintro e w' ⟨rfl, b', y', ⟨i0, i1, i2, i3, i4, i5, i6, i7⟩, ⟨m0, m1, m2, m3, m4, m5, m6, m7⟩⟩))
      go_ret
      exact ⟨rfl, bw.trans (Below.mono (by assumption) bw.size)⟩
    · rw [hx] at HT
      rw [hx'] at HR
      by_cases he : (Job.text ⟨g, n, k, u, f, t, c, z⟩).1 = (Job.text ⟨g', n', k', u', f', t', c', z'⟩).1
      · have := hx2 he
        simp only [Job.Jb.mk.injEq] at this
        obtain ⟨rfl, rfl, rfl, rfl, rfl, rfl, rfl, rfl⟩ := this
        generalize (⟨(Job.text ⟨g, n, k, u, f, t, c, z⟩).1.toArray⟩ : ByteArray) = A at *
        clear hx hx' HX hx2 he
        go_wp2_with (first
          | (go_at_call 9; refine (HA.out _ (by assumption)).mono ?_; rintro e w' ⟨rfl, b', y', ⟨i0, i1, i2, i3, i4, i5, i6, i7⟩, ⟨m0, m1, m2, m3, m4, m5, m6, m7⟩⟩)
          | (go_at_call 10; (first | with_reducible refine (HT.out _ (by assumption)).mono ?_ | with_reducible refine (HR.out _ (by assumption)).mono ?_); rintro e w' ⟨rfl, b', y', ⟨i0, i1, i2, i3, i4, i5, i6, i7⟩, ⟨m0, m1, m2, m3, m4, m5, m6, m7⟩⟩))
        go_ret
        exact ⟨rfl, bw.trans (Below.mono (by assumption) bw.size)⟩
      · have hAB : ((⟨(Job.text ⟨g, n, k, u, f, t, c, z⟩).1.toArray⟩ : ByteArray).toList == (⟨(Job.text ⟨g', n', k', u', f', t', c', z'⟩).1.toArray⟩ : ByteArray).toList) = false := by rw [tl_eq, tl_eq]; exact beq_eq_false_iff_ne.2 he
        have hne : (⟨g, n, k, u, f, t, c, z⟩ : Job.Jb) ≠ ⟨g', n', k', u', f', t', c', z'⟩ := fun h => he (by rw [h])
        generalize (⟨(Job.text ⟨g, n, k, u, f, t, c, z⟩).1.toArray⟩ : ByteArray) = A at *
        generalize (⟨(Job.text ⟨g', n', k', u', f', t', c', z'⟩).1.toArray⟩ : ByteArray) = B at *
        clear hx hx' HX hx2 he
        by_cases e0 : g = g'
        · subst e0
          by_cases e1 : n = n'
          · subst e1
            by_cases e2 : k = k'
            · subst e2
              by_cases e3 : u = u'
              · subst e3
                by_cases e4 : f = f'
                · subst e4
                  by_cases e5 : t = t'
                  · subst e5
                    by_cases e6 : c = c'
                    · subst e6
                      by_cases e7 : z = z'
                      · subst e7
                        exact absurd rfl hne
                      · have d7 : (z == z') = false := beq_eq_false_iff_ne.2 e7
                        clear hne e7
                        go_wp2_with (first
                          | (go_at_call 9; refine (HA.out _ (by assumption)).mono ?_; rintro e w' ⟨rfl, b', y', ⟨i0, i1, i2, i3, i4, i5, i6, i7⟩, ⟨m0, m1, m2, m3, m4, m5, m6, m7⟩⟩)
                          | (go_at_call 10; (first | with_reducible refine (HT.out _ (by assumption)).mono ?_ | with_reducible refine (HR.out _ (by assumption)).mono ?_); rintro e w' ⟨rfl, b', y', ⟨i0, i1, i2, i3, i4, i5, i6, i7⟩, ⟨m0, m1, m2, m3, m4, m5, m6, m7⟩⟩))
                        go_ret
                        exact ⟨rfl, bw.trans (Below.mono (by assumption) bw.size)⟩
                    · have d6 : (c.toList == c'.toList) = false := beq_eq_false_iff_ne.2 (fun h => e6 (Job.ba_of (by rw [← tl_eq, ← tl_eq]; exact h)))
                      clear hne e6
                      go_wp2_with (first
                        | (go_at_call 9; refine (HA.out _ (by assumption)).mono ?_; rintro e w' ⟨rfl, b', y', ⟨i0, i1, i2, i3, i4, i5, i6, i7⟩, ⟨m0, m1, m2, m3, m4, m5, m6, m7⟩⟩)
                        | (go_at_call 10; (first | with_reducible refine (HT.out _ (by assumption)).mono ?_ | with_reducible refine (HR.out _ (by assumption)).mono ?_); rintro e w' ⟨rfl, b', y', ⟨i0, i1, i2, i3, i4, i5, i6, i7⟩, ⟨m0, m1, m2, m3, m4, m5, m6, m7⟩⟩))
                      go_ret
                      exact ⟨rfl, bw.trans (Below.mono (by assumption) bw.size)⟩
                  · have d5 : (t.toList == t'.toList) = false := beq_eq_false_iff_ne.2 (fun h => e5 (Job.ba_of (by rw [← tl_eq, ← tl_eq]; exact h)))
                    clear hne e5
                    go_wp2_with (first
                      | (go_at_call 9; refine (HA.out _ (by assumption)).mono ?_; rintro e w' ⟨rfl, b', y', ⟨i0, i1, i2, i3, i4, i5, i6, i7⟩, ⟨m0, m1, m2, m3, m4, m5, m6, m7⟩⟩)
                      | (go_at_call 10; (first | with_reducible refine (HT.out _ (by assumption)).mono ?_ | with_reducible refine (HR.out _ (by assumption)).mono ?_); rintro e w' ⟨rfl, b', y', ⟨i0, i1, i2, i3, i4, i5, i6, i7⟩, ⟨m0, m1, m2, m3, m4, m5, m6, m7⟩⟩))
                    go_ret
                    exact ⟨rfl, bw.trans (Below.mono (by assumption) bw.size)⟩
                · have d4 : (f.toList == f'.toList) = false := beq_eq_false_iff_ne.2 (fun h => e4 (Job.ba_of (by rw [← tl_eq, ← tl_eq]; exact h)))
                  clear hne e4
                  go_wp2_with (first
                    | (go_at_call 9; refine (HA.out _ (by assumption)).mono ?_; rintro e w' ⟨rfl, b', y', ⟨i0, i1, i2, i3, i4, i5, i6, i7⟩, ⟨m0, m1, m2, m3, m4, m5, m6, m7⟩⟩)
                    | (go_at_call 10; (first | with_reducible refine (HT.out _ (by assumption)).mono ?_ | with_reducible refine (HR.out _ (by assumption)).mono ?_); rintro e w' ⟨rfl, b', y', ⟨i0, i1, i2, i3, i4, i5, i6, i7⟩, ⟨m0, m1, m2, m3, m4, m5, m6, m7⟩⟩))
                  go_ret
                  exact ⟨rfl, bw.trans (Below.mono (by assumption) bw.size)⟩
              · have d3 : (u.toList == u'.toList) = false := beq_eq_false_iff_ne.2 (fun h => e3 (Job.ba_of (by rw [← tl_eq, ← tl_eq]; exact h)))
                clear hne e3
                go_wp2_with (first
                  | (go_at_call 9; refine (HA.out _ (by assumption)).mono ?_; rintro e w' ⟨rfl, b', y', ⟨i0, i1, i2, i3, i4, i5, i6, i7⟩, ⟨m0, m1, m2, m3, m4, m5, m6, m7⟩⟩)
                  | (go_at_call 10; (first | with_reducible refine (HT.out _ (by assumption)).mono ?_ | with_reducible refine (HR.out _ (by assumption)).mono ?_); rintro e w' ⟨rfl, b', y', ⟨i0, i1, i2, i3, i4, i5, i6, i7⟩, ⟨m0, m1, m2, m3, m4, m5, m6, m7⟩⟩))
                go_ret
                exact ⟨rfl, bw.trans (Below.mono (by assumption) bw.size)⟩
            · have d2 : (k == k') = false := beq_eq_false_iff_ne.2 e2
              clear hne e2
              go_wp2_with (first
                | (go_at_call 9; refine (HA.out _ (by assumption)).mono ?_; rintro e w' ⟨rfl, b', y', ⟨i0, i1, i2, i3, i4, i5, i6, i7⟩, ⟨m0, m1, m2, m3, m4, m5, m6, m7⟩⟩)
                | (go_at_call 10; (first | with_reducible refine (HT.out _ (by assumption)).mono ?_ | with_reducible refine (HR.out _ (by assumption)).mono ?_); rintro e w' ⟨rfl, b', y', ⟨i0, i1, i2, i3, i4, i5, i6, i7⟩, ⟨m0, m1, m2, m3, m4, m5, m6, m7⟩⟩))
              go_ret
              exact ⟨rfl, bw.trans (Below.mono (by assumption) bw.size)⟩
          · have d1 : (n == n') = false := beq_eq_false_iff_ne.2 e1
            clear hne e1
            go_wp2_with (first
              | (go_at_call 9; refine (HA.out _ (by assumption)).mono ?_; rintro e w' ⟨rfl, b', y', ⟨i0, i1, i2, i3, i4, i5, i6, i7⟩, ⟨m0, m1, m2, m3, m4, m5, m6, m7⟩⟩)
              | (go_at_call 10; (first | with_reducible refine (HT.out _ (by assumption)).mono ?_ | with_reducible refine (HR.out _ (by assumption)).mono ?_); rintro e w' ⟨rfl, b', y', ⟨i0, i1, i2, i3, i4, i5, i6, i7⟩, ⟨m0, m1, m2, m3, m4, m5, m6, m7⟩⟩))
            go_ret
            exact ⟨rfl, bw.trans (Below.mono (by assumption) bw.size)⟩
        · have d0 : (g == g') = false := beq_eq_false_iff_ne.2 e0
          clear hne e0
          go_wp2_with (first
            | (go_at_call 9; refine (HA.out _ (by assumption)).mono ?_; rintro e w' ⟨rfl, b', y', ⟨i0, i1, i2, i3, i4, i5, i6, i7⟩, ⟨m0, m1, m2, m3, m4, m5, m6, m7⟩⟩)
            | (go_at_call 10; (first | with_reducible refine (HT.out _ (by assumption)).mono ?_ | with_reducible refine (HR.out _ (by assumption)).mono ?_); rintro e w' ⟨rfl, b', y', ⟨i0, i1, i2, i3, i4, i5, i6, i7⟩, ⟨m0, m1, m2, m3, m4, m5, m6, m7⟩⟩))
          go_ret
          exact ⟨rfl, bw.trans (Below.mono (by assumption) bw.size)⟩
  · clear HX
    go_wp2_with (first
      | (go_at_call 9; refine (HA.out _ (by assumption)).mono ?_; rintro e w' ⟨rfl, b', y', ⟨i0, i1, i2, i3, i4, i5, i6, i7⟩, ⟨m0, m1, m2, m3, m4, m5, m6, m7⟩⟩)
      | (go_at_call 10; (first | with_reducible refine (HT.out _ (by assumption)).mono ?_ | with_reducible refine (HR.out _ (by assumption)).mono ?_); rintro e w' ⟨rfl, b', y', ⟨i0, i1, i2, i3, i4, i5, i6, i7⟩, ⟨m0, m1, m2, m3, m4, m5, m6, m7⟩⟩))
    go_ret
    exact ⟨rfl, bw.trans (Below.mono (by assumption) bw.size)⟩
end Go.Proofs.YthjlhbbhdliffaaDoor
