/-
  Walks of the laws of layer 10: CommandBack.
-/
import Derived.Test.YtgnjjbpfgokndaaDoorCmdH
namespace Go.Proofs.YtgnjjbpfgokndaaDoor
open Go.RowKit

set_option maxHeartbeats 8000000 in
set_option maxRecDepth 100000 in
theorem cback_walk (v : Int) (g : Int) (n : Int) (k : Int) (u : ByteArray) (hu : u.size ≤ maxLen) (f : ByteArray) (hf : f.size ≤ maxLen) (t : ByteArray) (ht : t.size ≤ maxLen) (c : ByteArray) (hc : c.size ≤ maxLen) (z : Int) (a : Int) (s : ByteArray) (_ : s.size ≤ maxLen) (w : World) (hw : Ok w) :
    Calls Tryd.prog 5 #[.agg #[.int .i64 v, .int .i64 g, .int .i64 n, .int .i64 k, .string u, .string f, .string t, .string c, .int .i64 z, .int .i64 a], .string s] w fun e w' => e = .returned (.bool true) ∧ Below w.heap.size w w' := by
  have hb0 : w.heap.size < (w.alloc (.cells #[.int .i64 v, .int .i64 g, .int .i64 n, .int .i64 k, .string u, .string f, .string t, .string c, .int .i64 z, .int .i64 a] 27)).heap.size := by simp
  have hk0 : CK w.heap.size v g n k u f t c z a (w.alloc (.cells #[.int .i64 v, .int .i64 g, .int .i64 n, .int .i64 k, .string u, .string f, .string t, .string c, .int .i64 z, .int .i64 a] 27)) := ck_new v g n k u f t c z a w _
  have bw : Below w.heap.size w (w.alloc (.cells #[.int .i64 v, .int .i64 g, .int .i64 n, .int .i64 k, .string u, .string f, .string t, .string c, .int .i64 z, .int .i64 a] 27)) := below_alloc1 w _
  have hw0 : Ok (w.alloc (.cells #[.int .i64 v, .int .i64 g, .int .i64 n, .int .i64 k, .string u, .string f, .string t, .string c, .int .i64 z, .int .i64 a] 27)) := hw.below bw
  have HL : Hid (Calls Tryd.prog 8 #[.slice (some ⟨w.heap.size + 1, 0, none⟩) 1 1] ((w.alloc (.cells #[.int .i64 v, .int .i64 g, .int .i64 n, .int .i64 k, .string u, .string f, .string t, .string c, .int .i64 z, .int .i64 a] 27)).alloc (.cells #[.int .i64 v, .int .i64 g, .int .i64 n, .int .i64 k, .string u, .string f, .string t, .string c, .int .i64 z, .int .i64 a] 27)) fun e w' => OneC (w.alloc (.cells #[.int .i64 v, .int .i64 g, .int .i64 n, .int .i64 k, .string u, .string f, .string t, .string c, .int .i64 z, .int .i64 a] 27)) w.heap.size v g n k u f t c z a e w') := clong_at (by simp) hk0 hb0
  have HA : Hid (∀ W, Below (w.alloc (.cells #[.int .i64 v, .int .i64 g, .int .i64 n, .int .i64 k, .string u, .string f, .string t, .string c, .int .i64 z, .int .i64 a] 27)).heap.size (w.alloc (.cells #[.int .i64 v, .int .i64 g, .int .i64 n, .int .i64 k, .string u, .string f, .string t, .string c, .int .i64 z, .int .i64 a] 27)) W → Calls Tryd.prog 9 #[] W fun e w' => e = .returned (.bool true) ∧ Below (w.alloc (.cells #[.int .i64 v, .int .i64 g, .int .i64 n, .int .i64 k, .string u, .string f, .string t, .string c, .int .i64 z, .int .i64 a] 27)).heap.size (w.alloc (.cells #[.int .i64 v, .int .i64 g, .int .i64 n, .int .i64 k, .string u, .string f, .string t, .string c, .int .i64 z, .int .i64 a] 27)) w' ∧ w.heap.size < w'.heap.size ∧ CK w.heap.size v g n k u f t c z a w') := fun W hW => cchain hk0 hb0 hW (cawake_any W (hw0.below hW))
  have HT : Hid (∀ W, Below (w.alloc (.cells #[.int .i64 v, .int .i64 g, .int .i64 n, .int .i64 k, .string u, .string f, .string t, .string c, .int .i64 z, .int .i64 a] 27)).heap.size (w.alloc (.cells #[.int .i64 v, .int .i64 g, .int .i64 n, .int .i64 k, .string u, .string f, .string t, .string c, .int .i64 z, .int .i64 a] 27)) W → Calls Tryd.prog 10 #[.agg #[.int .i64 v, .int .i64 g, .int .i64 n, .int .i64 k, .string u, .string f, .string t, .string c, .int .i64 z, .int .i64 a]] W fun e w' => e = .returned (.tuple #[.string ⟨(Cmd.text ⟨v, ⟨g, n, k, u, f, t, c, z⟩, a⟩).1.toArray⟩, .int .i64 ((Cmd.text ⟨v, ⟨g, n, k, u, f, t, c, z⟩, a⟩).2 : Nat)]) ∧ Below (w.alloc (.cells #[.int .i64 v, .int .i64 g, .int .i64 n, .int .i64 k, .string u, .string f, .string t, .string c, .int .i64 z, .int .i64 a] 27)).heap.size (w.alloc (.cells #[.int .i64 v, .int .i64 g, .int .i64 n, .int .i64 k, .string u, .string f, .string t, .string c, .int .i64 z, .int .i64 a] 27)) w' ∧ w.heap.size < w'.heap.size ∧ CK w.heap.size v g n k u f t c z a w') := fun W hW => cchain hk0 hb0 hW (ctext_any v g n k u f t c z a W (hw0.below hW) hu hf ht hc)
  have HPP : Hid (∀ s : ByteArray, s.size ≤ 1000000 → ∀ W, Below (w.alloc (.cells #[.int .i64 v, .int .i64 g, .int .i64 n, .int .i64 k, .string u, .string f, .string t, .string c, .int .i64 z, .int .i64 a] 27)).heap.size (w.alloc (.cells #[.int .i64 v, .int .i64 g, .int .i64 n, .int .i64 k, .string u, .string f, .string t, .string c, .int .i64 z, .int .i64 a] 27)) W → Calls Tryd.prog 12 #[.string s] W fun e w' => e = .returned (.tuple #[cv (Cmd.parse s.data.toList).1, .int .i64 (Cmd.parse s.data.toList).2]) ∧ Below (w.alloc (.cells #[.int .i64 v, .int .i64 g, .int .i64 n, .int .i64 k, .string u, .string f, .string t, .string c, .int .i64 z, .int .i64 a] 27)).heap.size (w.alloc (.cells #[.int .i64 v, .int .i64 g, .int .i64 n, .int .i64 k, .string u, .string f, .string t, .string c, .int .i64 z, .int .i64 a] 27)) w' ∧ w.heap.size < w'.heap.size ∧ CK w.heap.size v g n k u f t c z a w') := fun s hs W hW => cchain hk0 hb0 hW (cparse_any s W (hw0.below hW) hs)
  have HTT : Hid (∀ (d : Cmd.Cw) (x : List UInt8), Cmd.says x d → ∀ W, Below (w.alloc (.cells #[.int .i64 v, .int .i64 g, .int .i64 n, .int .i64 k, .string u, .string f, .string t, .string c, .int .i64 z, .int .i64 a] 27)).heap.size (w.alloc (.cells #[.int .i64 v, .int .i64 g, .int .i64 n, .int .i64 k, .string u, .string f, .string t, .string c, .int .i64 z, .int .i64 a] 27)) W → Calls Tryd.prog 10 #[cv d] W fun e w' => e = .returned (.tuple #[.string ⟨x.toArray⟩, .int .i64 0]) ∧ Below (w.alloc (.cells #[.int .i64 v, .int .i64 g, .int .i64 n, .int .i64 k, .string u, .string f, .string t, .string c, .int .i64 z, .int .i64 a] 27)).heap.size (w.alloc (.cells #[.int .i64 v, .int .i64 g, .int .i64 n, .int .i64 k, .string u, .string f, .string t, .string c, .int .i64 z, .int .i64 a] 27)) w' ∧ w.heap.size < w'.heap.size ∧ CK w.heap.size v g n k u f t c z a w') := fun d x hd W hW => cchain hk0 hb0 hW (by
    have hsm := cand_small x
    rw [Cmd.cand_says hd] at hsm
    obtain ⟨a1, a2, a3, a4⟩ := hsm
    have h := ctext_any d.v d.j.g d.j.n d.j.k d.j.u d.j.f d.j.t d.j.c d.j.z d.a W (hw0.below hW) (Nat.le_trans a1 (by decide)) (Nat.le_trans a2 (by decide)) (Nat.le_trans a3 (by decide)) (Nat.le_trans a4 (by decide))
    have e : Cmd.text ⟨d.v, ⟨d.j.g, d.j.n, d.j.k, d.j.u, d.j.f, d.j.t, d.j.c, d.j.z⟩, d.a⟩ = (x, 0) := hd
    rw [e] at h
    exact h)
  obtain ⟨j0, j1, j2, j3, j4, j5, j6, j7, j8, j9⟩ := hk0
  clear hw hw0
  by_cases hbig : 3000 < s.size
  · have d3 : decide ((3000 : Int) < (s.size : Int)) = true := by simp; omega
    clear HPP HTT hu hf ht hc HT
    go_enter Tryd.func5, Tryd.ntmps5
    go_wp2_with (go_at_call 8; refine HL.out.mono ?_)
    intro e w1 hl1
    obtain ⟨L, rfl, b1, y1, i0, i1, i2, i3, i4, i5, i6, i7, i8, i9⟩ := hl1
    cases L
    · go_wp2_with (go_at_call 9; refine (HA.out _ (by first | assumption | exact below_moreC (by assumption) _)).mono ?_; rintro e w' ⟨rfl, b', y', i0, i1, i2, i3, i4, i5, i6, i7, i8, i9⟩)
      go_ret
      exact ⟨rfl, bw.trans (Below.mono (by first | assumption | exact Below.drew (by assumption)) bw.size)⟩
    · go_wp2_with (go_at_call 9; refine (HA.out _ (by first | assumption | exact below_moreC (by assumption) _)).mono ?_; rintro e w' ⟨rfl, b', y', i0, i1, i2, i3, i4, i5, i6, i7, i8, i9⟩)
      go_ret
      exact ⟨rfl, bw.trans (Below.mono (by first | assumption | exact Below.drew (by assumption)) bw.size)⟩
  have d3 : decide ((3000 : Int) < (s.size : Int)) = false := by simp; omega
  have HP := HPP.out s (by omega)
  rcases Cmd.parse_cases s.data.toList with ⟨d, hd, hp⟩ | ⟨_, hp⟩
  · have HT2 := HTT.out d _ hd
    rw [show (⟨s.data.toList.toArray⟩ : ByteArray) = s from rfl] at HT2
    rw [hp] at HP
    obtain ⟨v', ⟨g', n', k', u', f', t', c', z'⟩, a'⟩ := d
    unfold cv cl at HT2 HP
    dsimp only at HT2 HP
    have HT2 : Hid _ := HT2
    have HP : Hid _ := HP
    clear hp hd
    rcases Cmd.text_two ⟨v, ⟨g, n, k, u, f, t, c, z⟩, a⟩ with ⟨x, hx⟩ | ⟨q, hq, hx⟩
    · have hx' : Cmd.text ⟨v, ⟨g, n, k, u, f, t, c, z⟩, a⟩ = (x, 0) := hx
      have HP2 := HPP.out ⟨x.toArray⟩ (by have := (Cmd.short hx).2.1; show x.length ≤ _; omega)
      rw [show (⟨x.toArray⟩ : ByteArray).data.toList = x from rfl, Cmd.parse_yes hx] at HP2
      unfold cv cl at HP2
      dsimp only at HP2
      have HP2 : Hid _ := HP2
      rw [hx'] at HT
      dsimp only at HT
      generalize (⟨x.toArray⟩ : ByteArray) = X at *
      clear HPP HTT hx hx' hu hf ht hc hbig
      go_enter Tryd.func5, Tryd.ntmps5
      go_wp2_with (go_at_call 8; refine HL.out.mono ?_)
      intro e w1 hl1
      obtain ⟨L, rfl, b1, y1, i0, i1, i2, i3, i4, i5, i6, i7, i8, i9⟩ := hl1
      cases L
      · go_wp2_with (first
          | (go_at_call 9; refine (HA.out _ (by first | assumption | exact below_moreC (by assumption) _)).mono ?_; rintro e w' ⟨rfl, b', y', i0, i1, i2, i3, i4, i5, i6, i7, i8, i9⟩)
          | (go_at_call 10; (first | with_reducible refine (HT.out _ (by first | assumption | exact below_moreC (by assumption) _)).mono ?_ | with_reducible refine (HT2.out _ (by first | assumption | exact below_moreC (by assumption) _)).mono ?_); rintro e w' ⟨rfl, b', y', i0, i1, i2, i3, i4, i5, i6, i7, i8, i9⟩)
          | (go_at_call 12; (first | with_reducible refine (HP.out _ (by first | assumption | exact below_moreC (by assumption) _)).mono ?_ | with_reducible refine (HP2.out _ (by first | assumption | exact below_moreC (by assumption) _)).mono ?_); rintro e w' ⟨rfl, b', y', i0, i1, i2, i3, i4, i5, i6, i7, i8, i9⟩))
        go_ret
        exact ⟨rfl, bw.trans (Below.mono (by first | assumption | exact Below.drew (by assumption)) bw.size)⟩
      · go_wp2_with (go_at_call 9; refine (HA.out _ (by first | assumption | exact below_moreC (by assumption) _)).mono ?_; rintro e w' ⟨rfl, b', y', i0, i1, i2, i3, i4, i5, i6, i7, i8, i9⟩)
        go_ret
        exact ⟨rfl, bw.trans (Below.mono (by first | assumption | exact Below.drew (by assumption)) bw.size)⟩
    · rw [hx] at HT
      obtain ⟨n1, n2, n3, n4⟩ := ne_facts hq
      dsimp only at HT
      clear HPP HTT hx hq hu hf ht hc hbig
      go_enter Tryd.func5, Tryd.ntmps5
      go_wp2_with (go_at_call 8; refine HL.out.mono ?_)
      intro e w1 hl1
      obtain ⟨L, rfl, b1, y1, i0, i1, i2, i3, i4, i5, i6, i7, i8, i9⟩ := hl1
      cases L
      · go_wp2_with (first
          | (go_at_call 9; refine (HA.out _ (by first | assumption | exact below_moreC (by assumption) _)).mono ?_; rintro e w' ⟨rfl, b', y', i0, i1, i2, i3, i4, i5, i6, i7, i8, i9⟩)
          | (go_at_call 10; (first | with_reducible refine (HT.out _ (by first | assumption | exact below_moreC (by assumption) _)).mono ?_ | with_reducible refine (HT2.out _ (by first | assumption | exact below_moreC (by assumption) _)).mono ?_); rintro e w' ⟨rfl, b', y', i0, i1, i2, i3, i4, i5, i6, i7, i8, i9⟩)
          | (go_at_call 12; (first | with_reducible refine (HP.out _ (by first | assumption | exact below_moreC (by assumption) _)).mono ?_); rintro e w' ⟨rfl, b', y', i0, i1, i2, i3, i4, i5, i6, i7, i8, i9⟩))
        go_ret
        exact ⟨rfl, bw.trans (Below.mono (by first | assumption | exact Below.drew (by assumption)) bw.size)⟩
      · go_wp2_with (go_at_call 9; refine (HA.out _ (by first | assumption | exact below_moreC (by assumption) _)).mono ?_; rintro e w' ⟨rfl, b', y', i0, i1, i2, i3, i4, i5, i6, i7, i8, i9⟩)
        go_ret
        exact ⟨rfl, bw.trans (Below.mono (by first | assumption | exact Below.drew (by assumption)) bw.size)⟩
  · rw [hp] at HP
    unfold cv cl Cmd.zero Job.zero at HP
    dsimp only at HP
    have HP : Hid _ := HP
    clear hp
    rcases Cmd.text_two ⟨v, ⟨g, n, k, u, f, t, c, z⟩, a⟩ with ⟨x, hx⟩ | ⟨q, hq, hx⟩
    · have hx' : Cmd.text ⟨v, ⟨g, n, k, u, f, t, c, z⟩, a⟩ = (x, 0) := hx
      have HP2 := HPP.out ⟨x.toArray⟩ (by have := (Cmd.short hx).2.1; show x.length ≤ _; omega)
      rw [show (⟨x.toArray⟩ : ByteArray).data.toList = x from rfl, Cmd.parse_yes hx] at HP2
      unfold cv cl at HP2
      dsimp only at HP2
      have HP2 : Hid _ := HP2
      rw [hx'] at HT
      dsimp only at HT
      generalize (⟨x.toArray⟩ : ByteArray) = X at *
      clear HPP HTT hx hx' hu hf ht hc hbig
      go_enter Tryd.func5, Tryd.ntmps5
      go_wp2_with (go_at_call 8; refine HL.out.mono ?_)
      intro e w1 hl1
      obtain ⟨L, rfl, b1, y1, i0, i1, i2, i3, i4, i5, i6, i7, i8, i9⟩ := hl1
      cases L
      · go_wp2_with (first
          | (go_at_call 9; refine (HA.out _ (by first | assumption | exact below_moreC (by assumption) _)).mono ?_; rintro e w' ⟨rfl, b', y', i0, i1, i2, i3, i4, i5, i6, i7, i8, i9⟩)
          | (go_at_call 10; (first | with_reducible refine (HT.out _ (by first | assumption | exact below_moreC (by assumption) _)).mono ?_); rintro e w' ⟨rfl, b', y', i0, i1, i2, i3, i4, i5, i6, i7, i8, i9⟩)
          | (go_at_call 12; (first | with_reducible refine (HP.out _ (by first | assumption | exact below_moreC (by assumption) _)).mono ?_ | with_reducible refine (HP2.out _ (by first | assumption | exact below_moreC (by assumption) _)).mono ?_); rintro e w' ⟨rfl, b', y', i0, i1, i2, i3, i4, i5, i6, i7, i8, i9⟩))
        go_ret
        exact ⟨rfl, bw.trans (Below.mono (by first | assumption | exact Below.drew (by assumption)) bw.size)⟩
      · go_wp2_with (go_at_call 9; refine (HA.out _ (by first | assumption | exact below_moreC (by assumption) _)).mono ?_; rintro e w' ⟨rfl, b', y', i0, i1, i2, i3, i4, i5, i6, i7, i8, i9⟩)
        go_ret
        exact ⟨rfl, bw.trans (Below.mono (by first | assumption | exact Below.drew (by assumption)) bw.size)⟩
    · rw [hx] at HT
      obtain ⟨n1, n2, n3, n4⟩ := ne_facts hq
      dsimp only at HT
      clear HPP HTT hx hq hu hf ht hc hbig
      go_enter Tryd.func5, Tryd.ntmps5
      go_wp2_with (go_at_call 8; refine HL.out.mono ?_)
      intro e w1 hl1
      obtain ⟨L, rfl, b1, y1, i0, i1, i2, i3, i4, i5, i6, i7, i8, i9⟩ := hl1
      cases L
      · go_wp2_with (first
          | (go_at_call 9; refine (HA.out _ (by first | assumption | exact below_moreC (by assumption) _)).mono ?_; rintro e w' ⟨rfl, b', y', i0, i1, i2, i3, i4, i5, i6, i7, i8, i9⟩)
          | (go_at_call 10; (first | with_reducible refine (HT.out _ (by first | assumption | exact below_moreC (by assumption) _)).mono ?_); rintro e w' ⟨rfl, b', y', i0, i1, i2, i3, i4, i5, i6, i7, i8, i9⟩)
          | (go_at_call 12; (first | with_reducible refine (HP.out _ (by first | assumption | exact below_moreC (by assumption) _)).mono ?_); rintro e w' ⟨rfl, b', y', i0, i1, i2, i3, i4, i5, i6, i7, i8, i9⟩))
        go_ret
        exact ⟨rfl, bw.trans (Below.mono (by first | assumption | exact Below.drew (by assumption)) bw.size)⟩
      · go_wp2_with (go_at_call 9; refine (HA.out _ (by first | assumption | exact below_moreC (by assumption) _)).mono ?_; rintro e w' ⟨rfl, b', y', i0, i1, i2, i3, i4, i5, i6, i7, i8, i9⟩)
        go_ret
        exact ⟨rfl, bw.trans (Below.mono (by first | assumption | exact Below.drew (by assumption)) bw.size)⟩
end Go.Proofs.YtgnjjbpfgokndaaDoor
