/-
  Walks of the laws of layer 10: CommandApart.
-/
import Derived.Test.YtgnjjbpfgokndaaDoorCmdH
namespace Go.Proofs.YtgnjjbpfgokndaaDoor
open Go.RowKit

theorem cchain2 {w0 w1 : World} {b b2 : Nat} {v g n k : Int} {u f t c : ByteArray} {z a : Int} {v' g' n' k' : Int} {u' f' t' c' : ByteArray} {z' a' : Int} {F : Nat} {A : Array Value} {E : Ending} (h0 : CK b v g n k u f t c z a w0) (h2 : CK b2 v' g' n' k' u' f' t' c' z' a' w0) (hb : b < w0.heap.size) (hb2 : b2 < w0.heap.size) (hW : Below w0.heap.size w0 w1)
    (hc : Calls Tryd.prog F A w1 fun e w' => e = E ∧ Below w1.heap.size w1 w') : Calls Tryd.prog F A w1 fun e w' => e = E ∧ Below w0.heap.size w0 w' ∧ b2 < w'.heap.size ∧ CK b v g n k u f t c z a w' ∧ CK b2 v' g' n' k' u' f' t' c' z' a' w' :=
  hc.mono fun _ _ ⟨h1, h3⟩ => ⟨h1, hW.trans (h3.mono hW.size), Nat.lt_of_lt_of_le hb2 (hW.trans (h3.mono hW.size)).size, h0.below (hW.trans (h3.mono hW.size)) hb, h2.below (hW.trans (h3.mono hW.size)) hb2⟩
def LongD (w0 : World) (e : Ending) (w' : World) : Prop := ∃ L : Bool, e = .returned (.bool L) ∧ Below w0.heap.size w0 w'

set_option maxHeartbeats 8000000 in
set_option maxRecDepth 100000 in
theorem capart_walk (v : Int) (g : Int) (n : Int) (k : Int) (u : ByteArray) (hu : u.size ≤ maxLen) (f : ByteArray) (hf : f.size ≤ maxLen) (t : ByteArray) (ht : t.size ≤ maxLen) (c : ByteArray) (hc : c.size ≤ maxLen) (z : Int) (a : Int) (v' : Int) (g' : Int) (n' : Int) (k' : Int) (u' : ByteArray) (hu' : u'.size ≤ maxLen) (f' : ByteArray) (hf' : f'.size ≤ maxLen) (t' : ByteArray) (ht' : t'.size ≤ maxLen) (c' : ByteArray) (hc' : c'.size ≤ maxLen) (z' : Int) (a' : Int) (w : World) (hw : Ok w) :
    Calls Tryd.prog 6 #[.agg #[.int .i64 v, .int .i64 g, .int .i64 n, .int .i64 k, .string u, .string f, .string t, .string c, .int .i64 z, .int .i64 a], .agg #[.int .i64 v', .int .i64 g', .int .i64 n', .int .i64 k', .string u', .string f', .string t', .string c', .int .i64 z', .int .i64 a']] w fun e w' => e = .returned (.bool true) ∧ Below w.heap.size w w' := by
  have hb2 : w.heap.size + 1 < ((w.alloc (.cells #[.int .i64 v, .int .i64 g, .int .i64 n, .int .i64 k, .string u, .string f, .string t, .string c, .int .i64 z, .int .i64 a] 27)).alloc (.cells #[.int .i64 v', .int .i64 g', .int .i64 n', .int .i64 k', .string u', .string f', .string t', .string c', .int .i64 z', .int .i64 a'] 27)).heap.size := by simp
  have hk1 : CK w.heap.size v g n k u f t c z a ((w.alloc (.cells #[.int .i64 v, .int .i64 g, .int .i64 n, .int .i64 k, .string u, .string f, .string t, .string c, .int .i64 z, .int .i64 a] 27)).alloc (.cells #[.int .i64 v', .int .i64 g', .int .i64 n', .int .i64 k', .string u', .string f', .string t', .string c', .int .i64 z', .int .i64 a'] 27)) := (ck_new v g n k u f t c z a w 27).below (below_alloc1 _ _) (by simp)
  have hk2 : CK (w.heap.size + 1) v' g' n' k' u' f' t' c' z' a' ((w.alloc (.cells #[.int .i64 v, .int .i64 g, .int .i64 n, .int .i64 k, .string u, .string f, .string t, .string c, .int .i64 z, .int .i64 a] 27)).alloc (.cells #[.int .i64 v', .int .i64 g', .int .i64 n', .int .i64 k', .string u', .string f', .string t', .string c', .int .i64 z', .int .i64 a'] 27)) := by
    have h := ck_new v' g' n' k' u' f' t' c' z' a' (w.alloc (.cells #[.int .i64 v, .int .i64 g, .int .i64 n, .int .i64 k, .string u, .string f, .string t, .string c, .int .i64 z, .int .i64 a] 27)) 27
    have e : (w.alloc (.cells #[.int .i64 v, .int .i64 g, .int .i64 n, .int .i64 k, .string u, .string f, .string t, .string c, .int .i64 z, .int .i64 a] 27)).heap.size = w.heap.size + 1 := by simp
    rw [e] at h
    exact h
  have bw : Below w.heap.size w ((w.alloc (.cells #[.int .i64 v, .int .i64 g, .int .i64 n, .int .i64 k, .string u, .string f, .string t, .string c, .int .i64 z, .int .i64 a] 27)).alloc (.cells #[.int .i64 v', .int .i64 g', .int .i64 n', .int .i64 k', .string u', .string f', .string t', .string c', .int .i64 z', .int .i64 a'] 27)) := (below_alloc1 w _).alloc (below_alloc1 w _).size _
  have hw0 : Ok ((w.alloc (.cells #[.int .i64 v, .int .i64 g, .int .i64 n, .int .i64 k, .string u, .string f, .string t, .string c, .int .i64 z, .int .i64 a] 27)).alloc (.cells #[.int .i64 v', .int .i64 g', .int .i64 n', .int .i64 k', .string u', .string f', .string t', .string c', .int .i64 z', .int .i64 a'] 27)) := hw.below bw
  have HL : Hid (Calls Tryd.prog 8 #[.slice (some ⟨w.heap.size + 2, 0, none⟩) 2 2] (((w.alloc (.cells #[.int .i64 v, .int .i64 g, .int .i64 n, .int .i64 k, .string u, .string f, .string t, .string c, .int .i64 z, .int .i64 a] 27)).alloc (.cells #[.int .i64 v', .int .i64 g', .int .i64 n', .int .i64 k', .string u', .string f', .string t', .string c', .int .i64 z', .int .i64 a'] 27)).alloc (.cells #[.int .i64 v, .int .i64 g, .int .i64 n, .int .i64 k, .string u, .string f, .string t, .string c, .int .i64 z, .int .i64 a, .int .i64 v', .int .i64 g', .int .i64 n', .int .i64 k', .string u', .string f', .string t', .string c', .int .i64 z', .int .i64 a'] 27)) fun e w' => LongD ((w.alloc (.cells #[.int .i64 v, .int .i64 g, .int .i64 n, .int .i64 k, .string u, .string f, .string t, .string c, .int .i64 z, .int .i64 a] 27)).alloc (.cells #[.int .i64 v', .int .i64 g', .int .i64 n', .int .i64 k', .string u', .string f', .string t', .string c', .int .i64 z', .int .i64 a'] 27)) e w') := clong_two v g n k u f t c z a v' g' n' k' u' f' t' c' z' a' ((w.alloc (.cells #[.int .i64 v, .int .i64 g, .int .i64 n, .int .i64 k, .string u, .string f, .string t, .string c, .int .i64 z, .int .i64 a] 27)).alloc (.cells #[.int .i64 v', .int .i64 g', .int .i64 n', .int .i64 k', .string u', .string f', .string t', .string c', .int .i64 z', .int .i64 a'] 27)) _ (by simp)
  have HA : Hid (∀ W, Below ((w.alloc (.cells #[.int .i64 v, .int .i64 g, .int .i64 n, .int .i64 k, .string u, .string f, .string t, .string c, .int .i64 z, .int .i64 a] 27)).alloc (.cells #[.int .i64 v', .int .i64 g', .int .i64 n', .int .i64 k', .string u', .string f', .string t', .string c', .int .i64 z', .int .i64 a'] 27)).heap.size ((w.alloc (.cells #[.int .i64 v, .int .i64 g, .int .i64 n, .int .i64 k, .string u, .string f, .string t, .string c, .int .i64 z, .int .i64 a] 27)).alloc (.cells #[.int .i64 v', .int .i64 g', .int .i64 n', .int .i64 k', .string u', .string f', .string t', .string c', .int .i64 z', .int .i64 a'] 27)) W → Calls Tryd.prog 9 #[] W fun e w' => e = .returned (.bool true) ∧ Below ((w.alloc (.cells #[.int .i64 v, .int .i64 g, .int .i64 n, .int .i64 k, .string u, .string f, .string t, .string c, .int .i64 z, .int .i64 a] 27)).alloc (.cells #[.int .i64 v', .int .i64 g', .int .i64 n', .int .i64 k', .string u', .string f', .string t', .string c', .int .i64 z', .int .i64 a'] 27)).heap.size ((w.alloc (.cells #[.int .i64 v, .int .i64 g, .int .i64 n, .int .i64 k, .string u, .string f, .string t, .string c, .int .i64 z, .int .i64 a] 27)).alloc (.cells #[.int .i64 v', .int .i64 g', .int .i64 n', .int .i64 k', .string u', .string f', .string t', .string c', .int .i64 z', .int .i64 a'] 27)) w' ∧ w.heap.size + 1 < w'.heap.size ∧ CK w.heap.size v g n k u f t c z a w' ∧ CK (w.heap.size + 1) v' g' n' k' u' f' t' c' z' a' w') := fun W hW => cchain2 hk1 hk2 (by omega) hb2 hW (cawake_any W (hw0.below hW))
  have HT : Hid (∀ W, Below ((w.alloc (.cells #[.int .i64 v, .int .i64 g, .int .i64 n, .int .i64 k, .string u, .string f, .string t, .string c, .int .i64 z, .int .i64 a] 27)).alloc (.cells #[.int .i64 v', .int .i64 g', .int .i64 n', .int .i64 k', .string u', .string f', .string t', .string c', .int .i64 z', .int .i64 a'] 27)).heap.size ((w.alloc (.cells #[.int .i64 v, .int .i64 g, .int .i64 n, .int .i64 k, .string u, .string f, .string t, .string c, .int .i64 z, .int .i64 a] 27)).alloc (.cells #[.int .i64 v', .int .i64 g', .int .i64 n', .int .i64 k', .string u', .string f', .string t', .string c', .int .i64 z', .int .i64 a'] 27)) W → Calls Tryd.prog 10 #[.agg #[.int .i64 v, .int .i64 g, .int .i64 n, .int .i64 k, .string u, .string f, .string t, .string c, .int .i64 z, .int .i64 a]] W fun e w' => e = .returned (.tuple #[.string ⟨(Cmd.text ⟨v, ⟨g, n, k, u, f, t, c, z⟩, a⟩).1.toArray⟩, .int .i64 ((Cmd.text ⟨v, ⟨g, n, k, u, f, t, c, z⟩, a⟩).2 : Nat)]) ∧ Below ((w.alloc (.cells #[.int .i64 v, .int .i64 g, .int .i64 n, .int .i64 k, .string u, .string f, .string t, .string c, .int .i64 z, .int .i64 a] 27)).alloc (.cells #[.int .i64 v', .int .i64 g', .int .i64 n', .int .i64 k', .string u', .string f', .string t', .string c', .int .i64 z', .int .i64 a'] 27)).heap.size ((w.alloc (.cells #[.int .i64 v, .int .i64 g, .int .i64 n, .int .i64 k, .string u, .string f, .string t, .string c, .int .i64 z, .int .i64 a] 27)).alloc (.cells #[.int .i64 v', .int .i64 g', .int .i64 n', .int .i64 k', .string u', .string f', .string t', .string c', .int .i64 z', .int .i64 a'] 27)) w' ∧ w.heap.size + 1 < w'.heap.size ∧ CK w.heap.size v g n k u f t c z a w' ∧ CK (w.heap.size + 1) v' g' n' k' u' f' t' c' z' a' w') := fun W hW => cchain2 hk1 hk2 (by omega) hb2 hW (ctext_any v g n k u f t c z a W (hw0.below hW) hu hf ht hc)
  have HR : Hid (∀ W, Below ((w.alloc (.cells #[.int .i64 v, .int .i64 g, .int .i64 n, .int .i64 k, .string u, .string f, .string t, .string c, .int .i64 z, .int .i64 a] 27)).alloc (.cells #[.int .i64 v', .int .i64 g', .int .i64 n', .int .i64 k', .string u', .string f', .string t', .string c', .int .i64 z', .int .i64 a'] 27)).heap.size ((w.alloc (.cells #[.int .i64 v, .int .i64 g, .int .i64 n, .int .i64 k, .string u, .string f, .string t, .string c, .int .i64 z, .int .i64 a] 27)).alloc (.cells #[.int .i64 v', .int .i64 g', .int .i64 n', .int .i64 k', .string u', .string f', .string t', .string c', .int .i64 z', .int .i64 a'] 27)) W → Calls Tryd.prog 10 #[.agg #[.int .i64 v', .int .i64 g', .int .i64 n', .int .i64 k', .string u', .string f', .string t', .string c', .int .i64 z', .int .i64 a']] W fun e w' => e = .returned (.tuple #[.string ⟨(Cmd.text ⟨v', ⟨g', n', k', u', f', t', c', z'⟩, a'⟩).1.toArray⟩, .int .i64 ((Cmd.text ⟨v', ⟨g', n', k', u', f', t', c', z'⟩, a'⟩).2 : Nat)]) ∧ Below ((w.alloc (.cells #[.int .i64 v, .int .i64 g, .int .i64 n, .int .i64 k, .string u, .string f, .string t, .string c, .int .i64 z, .int .i64 a] 27)).alloc (.cells #[.int .i64 v', .int .i64 g', .int .i64 n', .int .i64 k', .string u', .string f', .string t', .string c', .int .i64 z', .int .i64 a'] 27)).heap.size ((w.alloc (.cells #[.int .i64 v, .int .i64 g, .int .i64 n, .int .i64 k, .string u, .string f, .string t, .string c, .int .i64 z, .int .i64 a] 27)).alloc (.cells #[.int .i64 v', .int .i64 g', .int .i64 n', .int .i64 k', .string u', .string f', .string t', .string c', .int .i64 z', .int .i64 a'] 27)) w' ∧ w.heap.size + 1 < w'.heap.size ∧ CK w.heap.size v g n k u f t c z a w' ∧ CK (w.heap.size + 1) v' g' n' k' u' f' t' c' z' a' w') := fun W hW => cchain2 hk1 hk2 (by omega) hb2 hW (ctext_any v' g' n' k' u' f' t' c' z' a' W (hw0.below hW) hu' hf' ht' hc')
  have hkk : Hid (CK w.heap.size v g n k u f t c z a ((w.alloc (.cells #[.int .i64 v, .int .i64 g, .int .i64 n, .int .i64 k, .string u, .string f, .string t, .string c, .int .i64 z, .int .i64 a] 27)).alloc (.cells #[.int .i64 v', .int .i64 g', .int .i64 n', .int .i64 k', .string u', .string f', .string t', .string c', .int .i64 z', .int .i64 a'] 27)) ∧ CK (w.heap.size + 1) v' g' n' k' u' f' t' c' z' a' ((w.alloc (.cells #[.int .i64 v, .int .i64 g, .int .i64 n, .int .i64 k, .string u, .string f, .string t, .string c, .int .i64 z, .int .i64 a] 27)).alloc (.cells #[.int .i64 v', .int .i64 g', .int .i64 n', .int .i64 k', .string u', .string f', .string t', .string c', .int .i64 z', .int .i64 a'] 27))) := ⟨hk1, hk2⟩
  obtain ⟨j0, j1, j2, j3, j4, j5, j6, j7, j8, j9⟩ := hk1
  obtain ⟨l0, l1, l2, l3, l4, l5, l6, l7, l8, l9⟩ := hk2
  clear hw hw0 hu hf ht hc hu' hf' ht' hc'
  go_enter Tryd.func6, Tryd.ntmps6
  go_wp2_with (go_at_call 8; refine HL.out.mono ?_)
  intro e w1 hl1
  obtain ⟨L, rfl, b1⟩ := hl1
  obtain ⟨i0, i1, i2, i3, i4, i5, i6, i7, i8, i9⟩ := hkk.out.1.below b1 (by omega)
  obtain ⟨m0, m1, m2, m3, m4, m5, m6, m7, m8, m9⟩ := hkk.out.2.below b1 hb2
  cases L
  · rcases Cmd.text_two ⟨v, ⟨g, n, k, u, f, t, c, z⟩, a⟩ with ⟨x, hx⟩ | ⟨q, hq, hx⟩
    · have hx1 : Cmd.text ⟨v, ⟨g, n, k, u, f, t, c, z⟩, a⟩ = (x, 0) := hx
      rw [hx1] at HT
      dsimp only at HT
      rcases Cmd.text_two ⟨v', ⟨g', n', k', u', f', t', c', z'⟩, a'⟩ with ⟨y, hy⟩ | ⟨q, hq, hy⟩
      · have hy1 : Cmd.text ⟨v', ⟨g', n', k', u', f', t', c', z'⟩, a'⟩ = (y, 0) := hy
        rw [hy1] at HR
        dsimp only at HR
        by_cases he : x = y
        · subst he
          have := Cmd.text_inj hx hy
          simp only [Cmd.Cw.mk.injEq, Job.Jb.mk.injEq] at this
          obtain ⟨rfl, ⟨rfl, rfl, rfl, rfl, rfl, rfl, rfl, rfl⟩, rfl⟩ := this
          generalize (⟨x.toArray⟩ : ByteArray) = A at *
          clear hx hx1 hy hy1
          go_wp2_with (first
            | (go_at_call 9; refine (HA.out _ (by assumption)).mono ?_; rintro e w' ⟨rfl, b', y', ⟨i0, i1, i2, i3, i4, i5, i6, i7, i8, i9⟩, ⟨m0, m1, m2, m3, m4, m5, m6, m7, m8, m9⟩⟩)
            | (go_at_call 10; (first | with_reducible refine (HT.out _ (by assumption)).mono ?_ | with_reducible refine (HR.out _ (by assumption)).mono ?_); rintro e w' ⟨rfl, b', y', ⟨i0, i1, i2, i3, i4, i5, i6, i7, i8, i9⟩, ⟨m0, m1, m2, m3, m4, m5, m6, m7, m8, m9⟩⟩))
          go_ret
          exact ⟨rfl, bw.trans (Below.mono (by first | assumption | exact Below.drew (by assumption)) bw.size)⟩
        · have hAB : ((⟨x.toArray⟩ : ByteArray).toList == (⟨y.toArray⟩ : ByteArray).toList) = false := by rw [tl_eq, tl_eq]; exact beq_eq_false_iff_ne.2 he
          have hne : (⟨v, ⟨g, n, k, u, f, t, c, z⟩, a⟩ : Cmd.Cw) ≠ ⟨v', ⟨g', n', k', u', f', t', c', z'⟩, a'⟩ := fun h => he (by rw [h] at hx1; rw [hx1] at hy1; exact (Prod.mk.inj hy1).1)
          generalize (⟨x.toArray⟩ : ByteArray) = A at *
          generalize (⟨y.toArray⟩ : ByteArray) = B at *
          clear hx hx1 hy hy1 he
          by_cases e0 : v = v'
          · subst e0
            by_cases e1 : g = g'
            · subst e1
              by_cases e2 : n = n'
              · subst e2
                by_cases e3 : k = k'
                · subst e3
                  by_cases e4 : u = u'
                  · subst e4
                    by_cases e5 : f = f'
                    · subst e5
                      by_cases e6 : t = t'
                      · subst e6
                        by_cases e7 : c = c'
                        · subst e7
                          by_cases e8 : z = z'
                          · subst e8
                            by_cases e9 : a = a'
                            · subst e9
                              exact absurd rfl hne
                            · have d9 : (a == a') = false := beq_eq_false_iff_ne.2 e9
                              clear hne e9
                              go_wp2_with (first
                                | (go_at_call 9; refine (HA.out _ (by assumption)).mono ?_; rintro e w' ⟨rfl, b', y', ⟨i0, i1, i2, i3, i4, i5, i6, i7, i8, i9⟩, ⟨m0, m1, m2, m3, m4, m5, m6, m7, m8, m9⟩⟩)
                                | (go_at_call 10; (first | with_reducible refine (HT.out _ (by assumption)).mono ?_ | with_reducible refine (HR.out _ (by assumption)).mono ?_); rintro e w' ⟨rfl, b', y', ⟨i0, i1, i2, i3, i4, i5, i6, i7, i8, i9⟩, ⟨m0, m1, m2, m3, m4, m5, m6, m7, m8, m9⟩⟩))
                              go_ret
                              exact ⟨rfl, bw.trans (Below.mono (by first | assumption | exact Below.drew (by assumption)) bw.size)⟩
                          · have d8 : (z == z') = false := beq_eq_false_iff_ne.2 e8
                            clear hne e8
                            go_wp2_with (first
                              | (go_at_call 9; refine (HA.out _ (by assumption)).mono ?_; rintro e w' ⟨rfl, b', y', ⟨i0, i1, i2, i3, i4, i5, i6, i7, i8, i9⟩, ⟨m0, m1, m2, m3, m4, m5, m6, m7, m8, m9⟩⟩)
                              | (go_at_call 10; (first | with_reducible refine (HT.out _ (by assumption)).mono ?_ | with_reducible refine (HR.out _ (by assumption)).mono ?_); rintro e w' ⟨rfl, b', y', ⟨i0, i1, i2, i3, i4, i5, i6, i7, i8, i9⟩, ⟨m0, m1, m2, m3, m4, m5, m6, m7, m8, m9⟩⟩))
                            go_ret
                            exact ⟨rfl, bw.trans (Below.mono (by first | assumption | exact Below.drew (by assumption)) bw.size)⟩
                        · have d7 : (c.toList == c'.toList) = false := beq_eq_false_iff_ne.2 (fun h => e7 (Job.ba_of (by rw [← tl_eq, ← tl_eq]; exact h)))
                          clear hne e7
                          go_wp2_with (first
                            | (go_at_call 9; refine (HA.out _ (by assumption)).mono ?_; rintro e w' ⟨rfl, b', y', ⟨i0, i1, i2, i3, i4, i5, i6, i7, i8, i9⟩, ⟨m0, m1, m2, m3, m4, m5, m6, m7, m8, m9⟩⟩)
                            | (go_at_call 10; (first | with_reducible refine (HT.out _ (by assumption)).mono ?_ | with_reducible refine (HR.out _ (by assumption)).mono ?_); rintro e w' ⟨rfl, b', y', ⟨i0, i1, i2, i3, i4, i5, i6, i7, i8, i9⟩, ⟨m0, m1, m2, m3, m4, m5, m6, m7, m8, m9⟩⟩))
                          go_ret
                          exact ⟨rfl, bw.trans (Below.mono (by first | assumption | exact Below.drew (by assumption)) bw.size)⟩
                      · have d6 : (t.toList == t'.toList) = false := beq_eq_false_iff_ne.2 (fun h => e6 (Job.ba_of (by rw [← tl_eq, ← tl_eq]; exact h)))
                        clear hne e6
                        go_wp2_with (first
                          | (go_at_call 9; refine (HA.out _ (by assumption)).mono ?_; rintro e w' ⟨rfl, b', y', ⟨i0, i1, i2, i3, i4, i5, i6, i7, i8, i9⟩, ⟨m0, m1, m2, m3, m4, m5, m6, m7, m8, m9⟩⟩)
                          | (go_at_call 10; (first | with_reducible refine (HT.out _ (by assumption)).mono ?_ | with_reducible refine (HR.out _ (by assumption)).mono ?_); rintro e w' ⟨rfl, b', y', ⟨i0, i1, i2, i3, i4, i5, i6, i7, i8, i9⟩, ⟨m0, m1, m2, m3, m4, m5, m6, m7, m8, m9⟩⟩))
                        go_ret
                        exact ⟨rfl, bw.trans (Below.mono (by first | assumption | exact Below.drew (by assumption)) bw.size)⟩
                    · have d5 : (f.toList == f'.toList) = false := beq_eq_false_iff_ne.2 (fun h => e5 (Job.ba_of (by rw [← tl_eq, ← tl_eq]; exact h)))
                      clear hne e5
                      go_wp2_with (first
                        | (go_at_call 9; refine (HA.out _ (by assumption)).mono ?_; rintro e w' ⟨rfl, b', y', ⟨i0, i1, i2, i3, i4, i5, i6, i7, i8, i9⟩, ⟨m0, m1, m2, m3, m4, m5, m6, m7, m8, m9⟩⟩)
                        | (go_at_call 10; (first | with_reducible refine (HT.out _ (by assumption)).mono ?_ | with_reducible refine (HR.out _ (by assumption)).mono ?_); rintro e w' ⟨rfl, b', y', ⟨i0, i1, i2, i3, i4, i5, i6, i7, i8, i9⟩, ⟨m0, m1, m2, m3, m4, m5, m6, m7, m8, m9⟩⟩))
                      go_ret
                      exact ⟨rfl, bw.trans (Below.mono (by first | assumption | exact Below.drew (by assumption)) bw.size)⟩
                  · have d4 : (u.toList == u'.toList) = false := beq_eq_false_iff_ne.2 (fun h => e4 (Job.ba_of (by rw [← tl_eq, ← tl_eq]; exact h)))
                    clear hne e4
                    go_wp2_with (first
                      | (go_at_call 9; refine (HA.out _ (by assumption)).mono ?_; rintro e w' ⟨rfl, b', y', ⟨i0, i1, i2, i3, i4, i5, i6, i7, i8, i9⟩, ⟨m0, m1, m2, m3, m4, m5, m6, m7, m8, m9⟩⟩)
                      | (go_at_call 10; (first | with_reducible refine (HT.out _ (by assumption)).mono ?_ | with_reducible refine (HR.out _ (by assumption)).mono ?_); rintro e w' ⟨rfl, b', y', ⟨i0, i1, i2, i3, i4, i5, i6, i7, i8, i9⟩, ⟨m0, m1, m2, m3, m4, m5, m6, m7, m8, m9⟩⟩))
                    go_ret
                    exact ⟨rfl, bw.trans (Below.mono (by first | assumption | exact Below.drew (by assumption)) bw.size)⟩
                · have d3 : (k == k') = false := beq_eq_false_iff_ne.2 e3
                  clear hne e3
                  go_wp2_with (first
                    | (go_at_call 9; refine (HA.out _ (by assumption)).mono ?_; rintro e w' ⟨rfl, b', y', ⟨i0, i1, i2, i3, i4, i5, i6, i7, i8, i9⟩, ⟨m0, m1, m2, m3, m4, m5, m6, m7, m8, m9⟩⟩)
                    | (go_at_call 10; (first | with_reducible refine (HT.out _ (by assumption)).mono ?_ | with_reducible refine (HR.out _ (by assumption)).mono ?_); rintro e w' ⟨rfl, b', y', ⟨i0, i1, i2, i3, i4, i5, i6, i7, i8, i9⟩, ⟨m0, m1, m2, m3, m4, m5, m6, m7, m8, m9⟩⟩))
                  go_ret
                  exact ⟨rfl, bw.trans (Below.mono (by first | assumption | exact Below.drew (by assumption)) bw.size)⟩
              · have d2 : (n == n') = false := beq_eq_false_iff_ne.2 e2
                clear hne e2
                go_wp2_with (first
                  | (go_at_call 9; refine (HA.out _ (by assumption)).mono ?_; rintro e w' ⟨rfl, b', y', ⟨i0, i1, i2, i3, i4, i5, i6, i7, i8, i9⟩, ⟨m0, m1, m2, m3, m4, m5, m6, m7, m8, m9⟩⟩)
                  | (go_at_call 10; (first | with_reducible refine (HT.out _ (by assumption)).mono ?_ | with_reducible refine (HR.out _ (by assumption)).mono ?_); rintro e w' ⟨rfl, b', y', ⟨i0, i1, i2, i3, i4, i5, i6, i7, i8, i9⟩, ⟨m0, m1, m2, m3, m4, m5, m6, m7, m8, m9⟩⟩))
                go_ret
                exact ⟨rfl, bw.trans (Below.mono (by first | assumption | exact Below.drew (by assumption)) bw.size)⟩
            · have d1 : (g == g') = false := beq_eq_false_iff_ne.2 e1
              clear hne e1
              go_wp2_with (first
                | (go_at_call 9; refine (HA.out _ (by assumption)).mono ?_; rintro e w' ⟨rfl, b', y', ⟨i0, i1, i2, i3, i4, i5, i6, i7, i8, i9⟩, ⟨m0, m1, m2, m3, m4, m5, m6, m7, m8, m9⟩⟩)
                | (go_at_call 10; (first | with_reducible refine (HT.out _ (by assumption)).mono ?_ | with_reducible refine (HR.out _ (by assumption)).mono ?_); rintro e w' ⟨rfl, b', y', ⟨i0, i1, i2, i3, i4, i5, i6, i7, i8, i9⟩, ⟨m0, m1, m2, m3, m4, m5, m6, m7, m8, m9⟩⟩))
              go_ret
              exact ⟨rfl, bw.trans (Below.mono (by first | assumption | exact Below.drew (by assumption)) bw.size)⟩
          · have d0 : (v == v') = false := beq_eq_false_iff_ne.2 e0
            clear hne e0
            go_wp2_with (first
              | (go_at_call 9; refine (HA.out _ (by assumption)).mono ?_; rintro e w' ⟨rfl, b', y', ⟨i0, i1, i2, i3, i4, i5, i6, i7, i8, i9⟩, ⟨m0, m1, m2, m3, m4, m5, m6, m7, m8, m9⟩⟩)
              | (go_at_call 10; (first | with_reducible refine (HT.out _ (by assumption)).mono ?_ | with_reducible refine (HR.out _ (by assumption)).mono ?_); rintro e w' ⟨rfl, b', y', ⟨i0, i1, i2, i3, i4, i5, i6, i7, i8, i9⟩, ⟨m0, m1, m2, m3, m4, m5, m6, m7, m8, m9⟩⟩))
            go_ret
            exact ⟨rfl, bw.trans (Below.mono (by first | assumption | exact Below.drew (by assumption)) bw.size)⟩
      · rw [hy] at HR
        obtain ⟨n1, n2, n3, n4⟩ := ne_facts hq
        dsimp only at HR
        generalize (⟨x.toArray⟩ : ByteArray) = A at *
        clear hx hx1 hy hq
        go_wp2_with (first
          | (go_at_call 9; refine (HA.out _ (by assumption)).mono ?_; rintro e w' ⟨rfl, b', y', ⟨i0, i1, i2, i3, i4, i5, i6, i7, i8, i9⟩, ⟨m0, m1, m2, m3, m4, m5, m6, m7, m8, m9⟩⟩)
          | (go_at_call 10; (first | with_reducible refine (HT.out _ (by assumption)).mono ?_ | with_reducible refine (HR.out _ (by assumption)).mono ?_); rintro e w' ⟨rfl, b', y', ⟨i0, i1, i2, i3, i4, i5, i6, i7, i8, i9⟩, ⟨m0, m1, m2, m3, m4, m5, m6, m7, m8, m9⟩⟩))
        go_ret
        exact ⟨rfl, bw.trans (Below.mono (by first | assumption | exact Below.drew (by assumption)) bw.size)⟩
    · rw [hx] at HT
      obtain ⟨n1, n2, n3, n4⟩ := ne_facts hq
      dsimp only at HT
      generalize (⟨(Cmd.text ⟨v', ⟨g', n', k', u', f', t', c', z'⟩, a'⟩).1.toArray⟩ : ByteArray) = B at *
      generalize (Cmd.text ⟨v', ⟨g', n', k', u', f', t', c', z'⟩, a'⟩).2 = q' at *
      clear hx hq
      go_wp2_with (first
        | (go_at_call 9; refine (HA.out _ (by assumption)).mono ?_; rintro e w' ⟨rfl, b', y', ⟨i0, i1, i2, i3, i4, i5, i6, i7, i8, i9⟩, ⟨m0, m1, m2, m3, m4, m5, m6, m7, m8, m9⟩⟩)
        | (go_at_call 10; (first | with_reducible refine (HT.out _ (by assumption)).mono ?_ | with_reducible refine (HR.out _ (by assumption)).mono ?_); rintro e w' ⟨rfl, b', y', ⟨i0, i1, i2, i3, i4, i5, i6, i7, i8, i9⟩, ⟨m0, m1, m2, m3, m4, m5, m6, m7, m8, m9⟩⟩))
      go_ret
      exact ⟨rfl, bw.trans (Below.mono (by first | assumption | exact Below.drew (by assumption)) bw.size)⟩
  · clear HT HR
    go_wp2_with (go_at_call 9; refine (HA.out _ (by assumption)).mono ?_; rintro e w' ⟨rfl, b', y', ⟨i0, i1, i2, i3, i4, i5, i6, i7, i8, i9⟩, ⟨m0, m1, m2, m3, m4, m5, m6, m7, m8, m9⟩⟩)
    go_ret
    exact ⟨rfl, bw.trans (Below.mono (by first | assumption | exact Below.drew (by assumption)) bw.size)⟩
end Go.Proofs.YtgnjjbpfgokndaaDoor
