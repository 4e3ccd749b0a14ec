/-
  Walks of the laws of layer 5: JobBack.
-/
import Derived.Test.YthjlhbbhdliffaaDoorLawJ1
namespace Go.Proofs.YthjlhbbhdliffaaDoor
open Go.RowKit

theorem below_more {w0 w' : World} (h : Below w0.heap.size w0 w') (o : Obj) : Below w0.heap.size w0 (w'.alloc o) := h.alloc h.size o
theorem chain2 {w0 w1 : World} {b : Nat} {g n k z : Int} {u f t c : ByteArray} {F : Nat} {A : Array Value} {E : Ending} (h0 : Keeps b g n k u f t c z w0) (hb : b < w0.heap.size) (hW : Below w0.heap.size w0 w1)
    (hc : Calls Tryd.prog F A w1 fun e w' => e = E ∧ Below w1.heap.size w1 w') : Calls Tryd.prog F A w1 fun e w' => e = E ∧ Below w0.heap.size w0 w' ∧ b < w'.heap.size ∧ Keeps b g n k u f t c z w' :=
  hc.mono fun _ _ ⟨h1, h2⟩ => ⟨h1, hW.trans (h2.mono hW.size), Nat.lt_of_lt_of_le hb (hW.trans (h2.mono hW.size)).size, h0.below (hW.trans (h2.mono hW.size)) hb⟩
/-- 'long' at one job that is laid for the call -/
theorem long_one (g n k : Int) (u f t c : ByteArray) (z : Int) (w : World) :
    Calls Tryd.prog 8 #[.slice (some ⟨w.heap.size, 0, none⟩) 1 1] (w.alloc (.cells #[.int .i64 g, .int .i64 n, .int .i64 k, .string u, .string f, .string t, .string c, .int .i64 z] 25)) fun e w' => ∃ L : Bool, e = .returned (.bool L) ∧ Below w.heap.size w w' := by
  refine (long_any (some ⟨w.heap.size, 0, none⟩) 1 [⟨g, n, k, u, f, t, c, z⟩] (w.alloc (.cells #[.int .i64 g, .int .i64 n, .int .i64 k, .string u, .string f, .string t, .string c, .int .i64 z] 25)) (by simp [maxLen]) (.inr ⟨w.heap.size, 0, rfl, by simp, fun i hi => ?_⟩)).mono ?_
  · obtain rfl : i = 0 := by simp at hi; omega
    simp [JAt]
  · rintro e w' ⟨L, rfl, _, b⟩
    exact ⟨L, rfl, (below_alloc1 w _).trans (b.mono (below_alloc1 w _).size)⟩
def OneLong (w0 : World) (b : Nat) (g n k : Int) (u f t c : ByteArray) (z : Int) (e : Ending) (w' : World) : Prop := ∃ L : Bool, e = .returned (.bool L) ∧ Below w0.heap.size w0 w' ∧ b < w'.heap.size ∧ Keeps b g n k u f t c z w'
theorem long_at {g n k : Int} {u f t c : ByteArray} {z : Int} {w0 : World} {b m : Nat} (hm : w0.heap.size = m) (h0 : Keeps b g n k u f t c z w0) (hb : b < w0.heap.size) :
    Calls Tryd.prog 8 #[.slice (some ⟨m, 0, none⟩) 1 1] (w0.alloc (.cells #[.int .i64 g, .int .i64 n, .int .i64 k, .string u, .string f, .string t, .string c, .int .i64 z] 25)) fun e w' => OneLong w0 b g n k u f t c z e w' := by
  subst hm
  exact (long_one g n k u f t c z w0).mono fun e w' ⟨L, h1, h2⟩ => ⟨L, h1, h2, Nat.lt_of_lt_of_le hb h2.size, h0.below h2 hb⟩
theorem small_job {j : Job.Jb} (h : Job.chk j = 0) : j.u.size ≤ maxLen ∧ j.f.size ≤ maxLen ∧ j.t.size ≤ maxLen ∧ j.c.size ≤ maxLen := by
  obtain ⟨h1, h2, h3, h4, h5, h6, h7, h8⟩ := Job.chk_ok.1 h
  have a := Job.usr_len h3
  have b := (Pth.chk_ok.1 h4).1
  have c := (Pth.chk_ok.1 h5).1
  have d := Job.cmd_len h6
  rw [Oct.len_eq] at a b c d
  unfold maxLen
  omega

set_option maxHeartbeats 8000000 in
set_option maxRecDepth 100000 in
theorem back_walk (g : Int) (n : Int) (k : Int) (u : ByteArray) (hu : u.size ≤ maxLen) (f : ByteArray) (hf : f.size ≤ maxLen) (t : ByteArray) (ht : t.size ≤ maxLen) (c : ByteArray) (hc : c.size ≤ maxLen) (z : Int) (s : ByteArray) (_ : s.size ≤ maxLen) (w : World) (hw : Ok w) :
    Calls Tryd.prog 5 #[.agg #[.int .i64 g, .int .i64 n, .int .i64 k, .string u, .string f, .string t, .string c, .int .i64 z], .string s] w fun e w' => e = .returned (.bool true) ∧ Below w.heap.size w w' := by
  have hb0 : w.heap.size < (w.alloc (.cells #[.int .i64 g, .int .i64 n, .int .i64 k, .string u, .string f, .string t, .string c, .int .i64 z] 25)).heap.size := by simp
  have hk0 : Keeps w.heap.size g n k u f t c z (w.alloc (.cells #[.int .i64 g, .int .i64 n, .int .i64 k, .string u, .string f, .string t, .string c, .int .i64 z] 25)) := keeps_new g n k u f t c z w _
  have bw : Below w.heap.size w (w.alloc (.cells #[.int .i64 g, .int .i64 n, .int .i64 k, .string u, .string f, .string t, .string c, .int .i64 z] 25)) := below_alloc1 w _
  have hw0 : Ok (w.alloc (.cells #[.int .i64 g, .int .i64 n, .int .i64 k, .string u, .string f, .string t, .string c, .int .i64 z] 25)) := hw.below bw
  have HL : Hid (Calls Tryd.prog 8 #[.slice (some ⟨w.heap.size + 1, 0, none⟩) 1 1] ((w.alloc (.cells #[.int .i64 g, .int .i64 n, .int .i64 k, .string u, .string f, .string t, .string c, .int .i64 z] 25)).alloc (.cells #[.int .i64 g, .int .i64 n, .int .i64 k, .string u, .string f, .string t, .string c, .int .i64 z] 25)) fun e w' => OneLong (w.alloc (.cells #[.int .i64 g, .int .i64 n, .int .i64 k, .string u, .string f, .string t, .string c, .int .i64 z] 25)) w.heap.size g n k u f t c z e w') :=
    long_at (by simp) hk0 hb0
  have HA : Hid (∀ W, Below (w.alloc (.cells #[.int .i64 g, .int .i64 n, .int .i64 k, .string u, .string f, .string t, .string c, .int .i64 z] 25)).heap.size (w.alloc (.cells #[.int .i64 g, .int .i64 n, .int .i64 k, .string u, .string f, .string t, .string c, .int .i64 z] 25)) W → Calls Tryd.prog 9 #[] W fun e w' => e = .returned (.bool true) ∧ Below (w.alloc (.cells #[.int .i64 g, .int .i64 n, .int .i64 k, .string u, .string f, .string t, .string c, .int .i64 z] 25)).heap.size (w.alloc (.cells #[.int .i64 g, .int .i64 n, .int .i64 k, .string u, .string f, .string t, .string c, .int .i64 z] 25)) w' ∧ w.heap.size < w'.heap.size ∧ Keeps w.heap.size g n k u f t c z w') := fun W hW => chain2 hk0 hb0 hW (awake_any W (hw0.below hW))
  have HT : Hid (∀ W, Below (w.alloc (.cells #[.int .i64 g, .int .i64 n, .int .i64 k, .string u, .string f, .string t, .string c, .int .i64 z] 25)).heap.size (w.alloc (.cells #[.int .i64 g, .int .i64 n, .int .i64 k, .string u, .string f, .string t, .string c, .int .i64 z] 25)) W → Calls Tryd.prog 10 #[.agg #[.int .i64 g, .int .i64 n, .int .i64 k, .string u, .string f, .string t, .string c, .int .i64 z]] W fun e w' => e = .returned (.tuple #[.string ⟨(Job.text ⟨g, n, k, u, f, t, c, z⟩).1.toArray⟩, .int .i64 ((Job.text ⟨g, n, k, u, f, t, c, z⟩).2 : Nat)]) ∧ Below (w.alloc (.cells #[.int .i64 g, .int .i64 n, .int .i64 k, .string u, .string f, .string t, .string c, .int .i64 z] 25)).heap.size (w.alloc (.cells #[.int .i64 g, .int .i64 n, .int .i64 k, .string u, .string f, .string t, .string c, .int .i64 z] 25)) w' ∧ w.heap.size < w'.heap.size ∧ Keeps w.heap.size g n k u f t c z w') := fun W hW => chain2 hk0 hb0 hW (jtext_any g n k u f t c z W (hw0.below hW) hu hf ht hc)
  have HC : Hid (∀ W, Below (w.alloc (.cells #[.int .i64 g, .int .i64 n, .int .i64 k, .string u, .string f, .string t, .string c, .int .i64 z] 25)).heap.size (w.alloc (.cells #[.int .i64 g, .int .i64 n, .int .i64 k, .string u, .string f, .string t, .string c, .int .i64 z] 25)) W → Calls Tryd.prog 12 #[.agg #[.int .i64 g, .int .i64 n, .int .i64 k, .string u, .string f, .string t, .string c, .int .i64 z]] W fun e w' => e = .returned (.int .i64 (Job.chk ⟨g, n, k, u, f, t, c, z⟩ : Nat)) ∧ Below (w.alloc (.cells #[.int .i64 g, .int .i64 n, .int .i64 k, .string u, .string f, .string t, .string c, .int .i64 z] 25)).heap.size (w.alloc (.cells #[.int .i64 g, .int .i64 n, .int .i64 k, .string u, .string f, .string t, .string c, .int .i64 z] 25)) w' ∧ w.heap.size < w'.heap.size ∧ Keeps w.heap.size g n k u f t c z w') := fun W hW => chain2 hk0 hb0 hW (jcheck_any g n k u f t c z W (hw0.below hW) hu hf ht hc)
  have HPP : Hid (∀ s : ByteArray, s.size ≤ 1000000 → ∀ W, Below (w.alloc (.cells #[.int .i64 g, .int .i64 n, .int .i64 k, .string u, .string f, .string t, .string c, .int .i64 z] 25)).heap.size (w.alloc (.cells #[.int .i64 g, .int .i64 n, .int .i64 k, .string u, .string f, .string t, .string c, .int .i64 z] 25)) W → Calls Tryd.prog 14 #[.string s] W fun e w' => e = .returned (.tuple #[jv (Job.parse s.data.toList).1, .int .i64 (Job.parse s.data.toList).2]) ∧ Below (w.alloc (.cells #[.int .i64 g, .int .i64 n, .int .i64 k, .string u, .string f, .string t, .string c, .int .i64 z] 25)).heap.size (w.alloc (.cells #[.int .i64 g, .int .i64 n, .int .i64 k, .string u, .string f, .string t, .string c, .int .i64 z] 25)) w' ∧ w.heap.size < w'.heap.size ∧ Keeps w.heap.size g n k u f t c z w') := fun s hs W hW => chain2 hk0 hb0 hW (parse_any s W (hw0.below hW) hs)
  have HTT : Hid (∀ (j : Job.Jb), Job.chk j = 0 → ∀ W, Below (w.alloc (.cells #[.int .i64 g, .int .i64 n, .int .i64 k, .string u, .string f, .string t, .string c, .int .i64 z] 25)).heap.size (w.alloc (.cells #[.int .i64 g, .int .i64 n, .int .i64 k, .string u, .string f, .string t, .string c, .int .i64 z] 25)) W → Calls Tryd.prog 10 #[jv j] W fun e w' => e = .returned (.tuple #[.string ⟨(Job.txt j).toArray⟩, .int .i64 0]) ∧ Below (w.alloc (.cells #[.int .i64 g, .int .i64 n, .int .i64 k, .string u, .string f, .string t, .string c, .int .i64 z] 25)).heap.size (w.alloc (.cells #[.int .i64 g, .int .i64 n, .int .i64 k, .string u, .string f, .string t, .string c, .int .i64 z] 25)) w' ∧ w.heap.size < w'.heap.size ∧ Keeps w.heap.size g n k u f t c z w') := fun j hj W hW => chain2 hk0 hb0 hW (by
    obtain ⟨a, b, c, d⟩ := small_job hj
    exact jtext_yes j.g j.n j.k j.u j.f j.t j.c j.z W (hw0.below hW) hj a b c d)
  obtain ⟨j0, j1, j2, j3, j4, j5, j6, j7⟩ := hk0
  clear hw hw0
  by_cases hbig : 3000 < s.size
  · have d3 : decide ((3000 : Int) < (s.size : Int)) = true := by simp; omega
    have HP : Hid True := trivial
    have HP2 : Hid True := trivial
    have HT2 : Hid True := trivial
    clear HPP HTT hu hf ht hc
    go_enter Tryd.func5, Tryd.ntmps5
    go_wp2_with (go_at_call 8; refine HL.out.mono ?_)
    intro e w1 hl1
    obtain ⟨L, rfl, b1, z1, i0, i1, i2, i3, i4, i5, i6, i7⟩ := hl1
    cases L
    all_goals
      go_wp2_with (go_at_call 9; refine (HA.out _ (by assumption)).mono ?_; rintro e w' ⟨rfl, b', z', i0, i1, i2, i3, i4, i5, i6, i7⟩)
      go_ret
      exact ⟨rfl, bw.trans (Below.mono (by assumption) bw.size)⟩
  have d3 : decide ((3000 : Int) < (s.size : Int)) = false := by simp; omega
  have HP := HPP.out s (by omega)
  have HTX : Hid ((Job.chk ⟨g, n, k, u, f, t, c, z⟩ = 0 ∧ ∃ X : ByteArray, X.size ≤ 165 ∧ Job.text ⟨g, n, k, u, f, t, c, z⟩ = (X.data.toList, 0) ∧ Job.parse X.data.toList = (⟨g, n, k, u, f, t, c, z⟩, 0)) ∨ (Job.chk ⟨g, n, k, u, f, t, c, z⟩ ≠ 0 ∧ Job.text ⟨g, n, k, u, f, t, c, z⟩ = ([], Job.chk ⟨g, n, k, u, f, t, c, z⟩))) := by
    by_cases h : Job.chk ⟨g, n, k, u, f, t, c, z⟩ = 0
    · refine .inl ⟨h, ⟨(Job.txt ⟨g, n, k, u, f, t, c, z⟩).toArray⟩, Job.txt_len h, by unfold Job.text; rw [if_pos h], ?_⟩
      exact Job.parse_yes ⟨h, rfl⟩
    · exact .inr ⟨h, by unfold Job.text; rw [if_neg h]⟩
  rcases Job.parse_cases s.data.toList with ⟨j, hj, hp⟩ | ⟨_, hp⟩
  · have HT2 := HTT.out j hj.1
    rw [hj.2, show (⟨s.data.toList.toArray⟩ : ByteArray) = s from rfl] at HT2
    rw [hp] at HP
    obtain ⟨g', n', k', u', f', t', c', z'⟩ := j
    unfold jv at HT2 HP
    have HT2 : Hid _ := HT2
    have HP : Hid _ := HP
    clear hp hj
    rcases HTX.out with ⟨hq, X, hX, ht, hpX⟩ | ⟨hq, ht⟩
    · have HP2 := HPP.out X (by omega)
      rw [hpX] at HP2
      have HP2 : Hid _ := HP2
      rw [ht] at HT
      rw [show (⟨X.data.toList.toArray⟩ : ByteArray) = X from rfl] at HT
      unfold jv at HP2
      have d2 : decide ((X.size : Int) ≤ 200) = true := by simp; omega
      clear HPP HTT HTX ht hpX hq hu hf hc HC
      have HC : Hid True := trivial
      go_enter Tryd.func5, Tryd.ntmps5
      go_wp2_with (go_at_call 8; refine HL.out.mono ?_)
      intro e w1 hl1
      obtain ⟨L, rfl, b1, z1, i0, i1, i2, i3, i4, i5, i6, i7⟩ := hl1
      cases L
      · go_wp2_with (first
          | (go_at_call 9; refine (HA.out _ (by first | assumption | exact below_more (by assumption) _)).mono ?_; rintro e w' ⟨rfl, b', z', i0, i1, i2, i3, i4, i5, i6, i7⟩)
          | (go_at_call 10; (first | with_reducible refine (HT.out _ (by first | assumption | exact below_more (by assumption) _)).mono ?_ | with_reducible refine (HT2.out _ (by first | assumption | exact below_more (by assumption) _)).mono ?_); rintro e w' ⟨rfl, b', z', i0, i1, i2, i3, i4, i5, i6, i7⟩)
          | (go_at_call 14; (first | with_reducible refine (HP.out _ (by first | assumption | exact below_more (by assumption) _)).mono ?_ | with_reducible refine (HP2.out _ (by first | assumption | exact below_more (by assumption) _)).mono ?_); rintro e w' ⟨rfl, b', z', i0, i1, i2, i3, i4, i5, i6, i7⟩)
          | (go_at_call 12; refine (HC.out _ (by first | assumption | exact below_more (by assumption) _)).mono ?_; rintro e w' ⟨rfl, b', z', i0, i1, i2, i3, i4, i5, i6, i7⟩))
        go_ret
        exact ⟨rfl, bw.trans (Below.mono (by assumption) bw.size)⟩
      · go_wp2_with (first
          | (go_at_call 9; refine (HA.out _ (by first | assumption | exact below_more (by assumption) _)).mono ?_; rintro e w' ⟨rfl, b', z', i0, i1, i2, i3, i4, i5, i6, i7⟩)
          | (go_at_call 10; (first | with_reducible refine (HT.out _ (by first | assumption | exact below_more (by assumption) _)).mono ?_ | with_reducible refine (HT2.out _ (by first | assumption | exact below_more (by assumption) _)).mono ?_); rintro e w' ⟨rfl, b', z', i0, i1, i2, i3, i4, i5, i6, i7⟩)
          | (go_at_call 14; (first | with_reducible refine (HP.out _ (by first | assumption | exact below_more (by assumption) _)).mono ?_ | with_reducible refine (HP2.out _ (by first | assumption | exact below_more (by assumption) _)).mono ?_); rintro e w' ⟨rfl, b', z', i0, i1, i2, i3, i4, i5, i6, i7⟩)
          | (go_at_call 12; refine (HC.out _ (by first | assumption | exact below_more (by assumption) _)).mono ?_; rintro e w' ⟨rfl, b', z', i0, i1, i2, i3, i4, i5, i6, i7⟩))
        go_ret
        exact ⟨rfl, bw.trans (Below.mono (by assumption) bw.size)⟩
    · rw [ht] at HT
      obtain ⟨n1, n2, n3, n4⟩ := ne_facts hq
      generalize Job.chk ⟨g, n, k, u, f, t, c, z⟩ = q at *
      have HP2 : Hid True := trivial
      clear HPP HTT HTX ht hq hu hf hc
      go_enter Tryd.func5, Tryd.ntmps5
      go_wp2_with (go_at_call 8; refine HL.out.mono ?_)
      intro e w1 hl1
      obtain ⟨L, rfl, b1, z1, i0, i1, i2, i3, i4, i5, i6, i7⟩ := hl1
      cases L
      · go_wp2_with (first
          | (go_at_call 9; refine (HA.out _ (by first | assumption | exact below_more (by assumption) _)).mono ?_; rintro e w' ⟨rfl, b', z', i0, i1, i2, i3, i4, i5, i6, i7⟩)
          | (go_at_call 10; (first | with_reducible refine (HT.out _ (by first | assumption | exact below_more (by assumption) _)).mono ?_ | with_reducible refine (HT2.out _ (by first | assumption | exact below_more (by assumption) _)).mono ?_); rintro e w' ⟨rfl, b', z', i0, i1, i2, i3, i4, i5, i6, i7⟩)
          | (go_at_call 14; (first | with_reducible refine (HP.out _ (by first | assumption | exact below_more (by assumption) _)).mono ?_ | with_reducible refine (HP2.out _ (by first | assumption | exact below_more (by assumption) _)).mono ?_); rintro e w' ⟨rfl, b', z', i0, i1, i2, i3, i4, i5, i6, i7⟩)
          | (go_at_call 12; refine (HC.out _ (by first | assumption | exact below_more (by assumption) _)).mono ?_; rintro e w' ⟨rfl, b', z', i0, i1, i2, i3, i4, i5, i6, i7⟩))
        go_ret
        exact ⟨rfl, bw.trans (Below.mono (by assumption) bw.size)⟩
      · go_wp2_with (first
          | (go_at_call 9; refine (HA.out _ (by first | assumption | exact below_more (by assumption) _)).mono ?_; rintro e w' ⟨rfl, b', z', i0, i1, i2, i3, i4, i5, i6, i7⟩)
          | (go_at_call 10; (first | with_reducible refine (HT.out _ (by first | assumption | exact below_more (by assumption) _)).mono ?_ | with_reducible refine (HT2.out _ (by first | assumption | exact below_more (by assumption) _)).mono ?_); rintro e w' ⟨rfl, b', z', i0, i1, i2, i3, i4, i5, i6, i7⟩)
          | (go_at_call 14; (first | with_reducible refine (HP.out _ (by first | assumption | exact below_more (by assumption) _)).mono ?_ | with_reducible refine (HP2.out _ (by first | assumption | exact below_more (by assumption) _)).mono ?_); rintro e w' ⟨rfl, b', z', i0, i1, i2, i3, i4, i5, i6, i7⟩)
          | (go_at_call 12; refine (HC.out _ (by first | assumption | exact below_more (by assumption) _)).mono ?_; rintro e w' ⟨rfl, b', z', i0, i1, i2, i3, i4, i5, i6, i7⟩))
        go_ret
        exact ⟨rfl, bw.trans (Below.mono (by assumption) bw.size)⟩
  · have HT2 : Hid True := trivial
    rw [hp] at HP
    unfold jv Job.zero at HP
    have HP : Hid _ := HP
    clear hp
    rcases HTX.out with ⟨hq, X, hX, ht, hpX⟩ | ⟨hq, ht⟩
    · have HP2 := HPP.out X (by omega)
      rw [hpX] at HP2
      have HP2 : Hid _ := HP2
      rw [ht] at HT
      rw [show (⟨X.data.toList.toArray⟩ : ByteArray) = X from rfl] at HT
      unfold jv at HP2
      have d2 : decide ((X.size : Int) ≤ 200) = true := by simp; omega
      clear HPP HTT HTX ht hpX hq hu hf hc HC
      have HC : Hid True := trivial
      go_enter Tryd.func5, Tryd.ntmps5
      go_wp2_with (go_at_call 8; refine HL.out.mono ?_)
      intro e w1 hl1
      obtain ⟨L, rfl, b1, z1, i0, i1, i2, i3, i4, i5, i6, i7⟩ := hl1
      cases L
      · go_wp2_with (first
          | (go_at_call 9; refine (HA.out _ (by first | assumption | exact below_more (by assumption) _)).mono ?_; rintro e w' ⟨rfl, b', z', i0, i1, i2, i3, i4, i5, i6, i7⟩)
          | (go_at_call 10; (first | with_reducible refine (HT.out _ (by first | assumption | exact below_more (by assumption) _)).mono ?_ | with_reducible refine (HT2.out _ (by first | assumption | exact below_more (by assumption) _)).mono ?_); rintro e w' ⟨rfl, b', z', i0, i1, i2, i3, i4, i5, i6, i7⟩)
          | (go_at_call 14; (first | with_reducible refine (HP.out _ (by first | assumption | exact below_more (by assumption) _)).mono ?_ | with_reducible refine (HP2.out _ (by first | assumption | exact below_more (by assumption) _)).mono ?_); rintro e w' ⟨rfl, b', z', i0, i1, i2, i3, i4, i5, i6, i7⟩)
          | (go_at_call 12; refine (HC.out _ (by first | assumption | exact below_more (by assumption) _)).mono ?_; rintro e w' ⟨rfl, b', z', i0, i1, i2, i3, i4, i5, i6, i7⟩))
        go_ret
        exact ⟨rfl, bw.trans (Below.mono (by assumption) bw.size)⟩
      · go_wp2_with (first
          | (go_at_call 9; refine (HA.out _ (by first | assumption | exact below_more (by assumption) _)).mono ?_; rintro e w' ⟨rfl, b', z', i0, i1, i2, i3, i4, i5, i6, i7⟩)
          | (go_at_call 10; (first | with_reducible refine (HT.out _ (by first | assumption | exact below_more (by assumption) _)).mono ?_ | with_reducible refine (HT2.out _ (by first | assumption | exact below_more (by assumption) _)).mono ?_); rintro e w' ⟨rfl, b', z', i0, i1, i2, i3, i4, i5, i6, i7⟩)
          | (go_at_call 14; (first | with_reducible refine (HP.out _ (by first | assumption | exact below_more (by assumption) _)).mono ?_ | with_reducible refine (HP2.out _ (by first | assumption | exact below_more (by assumption) _)).mono ?_); rintro e w' ⟨rfl, b', z', i0, i1, i2, i3, i4, i5, i6, i7⟩)
          | (go_at_call 12; refine (HC.out _ (by first | assumption | exact below_more (by assumption) _)).mono ?_; rintro e w' ⟨rfl, b', z', i0, i1, i2, i3, i4, i5, i6, i7⟩))
        go_ret
        exact ⟨rfl, bw.trans (Below.mono (by assumption) bw.size)⟩
    · rw [ht] at HT
      obtain ⟨n1, n2, n3, n4⟩ := ne_facts hq
      generalize Job.chk ⟨g, n, k, u, f, t, c, z⟩ = q at *
      have HP2 : Hid True := trivial
      clear HPP HTT HTX ht hq hu hf hc
      go_enter Tryd.func5, Tryd.ntmps5
      go_wp2_with (go_at_call 8; refine HL.out.mono ?_)
      intro e w1 hl1
      obtain ⟨L, rfl, b1, z1, i0, i1, i2, i3, i4, i5, i6, i7⟩ := hl1
      cases L
      · go_wp2_with (first
          | (go_at_call 9; refine (HA.out _ (by first | assumption | exact below_more (by assumption) _)).mono ?_; rintro e w' ⟨rfl, b', z', i0, i1, i2, i3, i4, i5, i6, i7⟩)
          | (go_at_call 10; (first | with_reducible refine (HT.out _ (by first | assumption | exact below_more (by assumption) _)).mono ?_ | with_reducible refine (HT2.out _ (by first | assumption | exact below_more (by assumption) _)).mono ?_); rintro e w' ⟨rfl, b', z', i0, i1, i2, i3, i4, i5, i6, i7⟩)
          | (go_at_call 14; (first | with_reducible refine (HP.out _ (by first | assumption | exact below_more (by assumption) _)).mono ?_ | with_reducible refine (HP2.out _ (by first | assumption | exact below_more (by assumption) _)).mono ?_); rintro e w' ⟨rfl, b', z', i0, i1, i2, i3, i4, i5, i6, i7⟩)
          | (go_at_call 12; refine (HC.out _ (by first | assumption | exact below_more (by assumption) _)).mono ?_; rintro e w' ⟨rfl, b', z', i0, i1, i2, i3, i4, i5, i6, i7⟩))
        go_ret
        exact ⟨rfl, bw.trans (Below.mono (by assumption) bw.size)⟩
      · go_wp2_with (first
          | (go_at_call 9; refine (HA.out _ (by first | assumption | exact below_more (by assumption) _)).mono ?_; rintro e w' ⟨rfl, b', z', i0, i1, i2, i3, i4, i5, i6, i7⟩)
          | (go_at_call 10; (first | with_reducible refine (HT.out _ (by first | assumption | exact below_more (by assumption) _)).mono ?_ | with_reducible refine (HT2.out _ (by first | assumption | exact below_more (by assumption) _)).mono ?_); rintro e w' ⟨rfl, b', z', i0, i1, i2, i3, i4, i5, i6, i7⟩)
          | (go_at_call 14; (first | with_reducible refine (HP.out _ (by first | assumption | exact below_more (by assumption) _)).mono ?_ | with_reducible refine (HP2.out _ (by first | assumption | exact below_more (by assumption) _)).mono ?_); rintro e w' ⟨rfl, b', z', i0, i1, i2, i3, i4, i5, i6, i7⟩)
          | (go_at_call 12; refine (HC.out _ (by first | assumption | exact below_more (by assumption) _)).mono ?_; rintro e w' ⟨rfl, b', z', i0, i1, i2, i3, i4, i5, i6, i7⟩))
        go_ret
        exact ⟨rfl, bw.trans (Below.mono (by assumption) bw.size)⟩
end Go.Proofs.YthjlhbbhdliffaaDoor
