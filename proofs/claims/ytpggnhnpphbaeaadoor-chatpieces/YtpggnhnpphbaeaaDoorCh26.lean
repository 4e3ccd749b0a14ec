/-
  Layer 8: copySteps of steps that a caller hands in.
-/
import Derived.Test.YtpggnhnpphbaeaaDoorCh13
import Derived.Test.YtpggnhnpphbaeaaDoorCh25
namespace Go.Proofs.YtpggnhnpphbaeaaDoor
open Go.RowKit

/-- slices.Clone of texts that are handed in -/
theorem clone_texts_in (a : Option Addr) (c : Nat) (l : List ByteArray) (w : World) (hl : l.length ≤ 1000000) (hr : Row0 strE w a l) :
    Calls Tryd.prog 23 #[.slice a l.length c] w fun e w' => ∃ a' c', e = .returned (.slice a' l.length c') ∧ Rg.Tow strE w' a' l ∧ l.length ≤ c' ∧ Below w.heap.size w w' := by
  cases l with
  | nil =>
    cases a with
    | none => exact (Tryd.slices_Clone_string_nil 0 c w).mono fun e w' ⟨h1, h2⟩ => ⟨none, 0, h1, Rg.Tow.nil, Nat.le_refl _, by rw [h2]; exact Below.refl _ _⟩
    | some ad =>
      refine (Tryd.slices_Clone_string_zero ad c w).mono fun e w' ⟨v', h1, h2, h3, h4⟩ => ?_
      obtain ⟨g, cap, rest, e2, h5⟩ := Rg.El.Own.of (E := strE) (l := []) h2 h3 rfl
      exact ⟨some ⟨g, 0, none⟩, cap, by rw [h1, e2], h5.tow, h5.le, h4⟩
  | cons x l =>
    have hrow := hr.row (i := 0) (by simp)
    rcases hrow with ⟨_, e⟩ | ⟨b, o, rfl, hb, hat⟩
    · cases e
    · refine (Tryd.slices_Clone_string b o (x :: l).length c (x :: l) w (Nat.le_refl _) (by omega) (fun j hj => by rw [srow_cell (.inr ⟨b, o, rfl, hb, hat⟩) hj, List.getD_eq_getElem?_getD, List.getElem?_eq_getElem hj]; rfl)).mono fun e w' ⟨v', h1, h2, h3, h4⟩ => ?_
      rw [List.take_length, ← str_flat] at h2
      obtain ⟨g, cap, rest, e2, h5⟩ := Rg.El.Own.of (E := strE) h2 h3 rfl
      exact ⟨some ⟨g, 0, none⟩, cap, by rw [h1, e2], h5.tow, h5.le, h4⟩
/-- slices.Clone of steps that are handed in -/
theorem clone_steps_in (b o n c : Nat) (vs : List SV) (w : World) (hn : n = vs.length) (hl : n ≤ 1000) (hr : stepE.Row w (some ⟨b, o, none⟩) vs) :
    Calls Tryd.prog 22 #[.slice (some ⟨b, o, none⟩) n c] w fun e w' => ∃ g cap, e = .returned (.slice (some ⟨g, 0, none⟩) n cap) ∧ Rg.Sow stepE w.heap.size w' (some ⟨g, 0, none⟩) cap vs ∧ Below w.heap.size w w' := by
  obtain ⟨i0, hi, hz0, hz1, hz2⟩ := infoStep'
  subst hn
  refine (Go.Proofs.AnyE.slices_Clone clLays i0 _ 3 64 hi hz0 hz1 hz2 rfl (by decide) Tryd.sizeOf28 b o vs.length c (stepE.flat vs) w (stepE.flat_length vs) (by unfold maxLen; omega) (by omega) hr.some.2 (stepE.flat_cells vs)).mono fun e w' ⟨v', h1, h2, h3, h4⟩ => ?_
  obtain ⟨g, cap, rest, e2, h5⟩ := Rg.El.Own.of (E := stepE) h2 h3 rfl
  exact ⟨g, cap, by rw [h1, e2], .inr ⟨g, rest, rfl, h5⟩, h4⟩
/-- the first of the steps are laid anew, the others as they were -/
structure Mix (W : World) (k : Nat) (vs0 vs : List SV) (xs : List Ch.St) : Prop where
  len : vs.length = xs.length
  new : ∀ (j : Nat) (h1 : j < vs.length) (h2 : j < xs.length), j < k → StAt W vs[j] xs[j]
  old : ∀ (j : Nat), k ≤ j → vs[j]? = vs0[j]?
theorem Mix.below {W W' : World} {k : Nat} {vs0 vs : List SV} {xs : List Ch.St} (h : Mix W k vs0 vs xs) (hb : Below W.heap.size W W') : Mix W' k vs0 vs xs := ⟨h.len, fun j h1 h2 h3 => (h.new j h1 h2 h3).below hb, h.old⟩
theorem StsAt.of {W : World} : ∀ {vs : List SV} {xs : List Ch.St}, vs.length = xs.length → (∀ (j : Nat) (h1 : j < vs.length) (h2 : j < xs.length), StAt W vs[j] xs[j]) → StsAt W vs xs
  | [], [], _, _ => trivial
  | v :: vs, x :: xs, hl, h => ⟨h 0 (by simp) (by simp), StsAt.of (by simpa using hl) fun j h1 h2 => h (j + 1) (by simpa using h1) (by simpa using h2)⟩
  | [], _ :: _, hl, _ => by simp at hl
  | _ :: _, [], hl, _ => by simp at hl
theorem Mix.all {W : World} {k : Nat} {vs0 vs : List SV} {xs : List Ch.St} (h : Mix W k vs0 vs xs) (hk : xs.length ≤ k) : StsAt W vs xs := StsAt.of h.len fun j h1 h2 => h.new j h1 h2 (by omega)
/-- the first field laid in a copied step -/
theorem mix_one {w : World} {base g sc i : Nat} {vs0 vs : List SV} {xs : List Ch.St} {W : World} (hS : Rg.Sow stepE base W (some ⟨g, 0, none⟩) sc vs) (hX : Mix W i vs0 vs xs) (hw : w.heap.size ≤ base) (hb : Below w.heap.size w W) (hi : i < vs.length) (t : Nat) (ht : t < 3) (u : Value) (v' : SV) (hv : stepE.enc v' = (stepE.enc vs[i]).set t u) :
    Rg.Sow stepE base (W.setCell ⟨g, i * 3 + t, none⟩ u) (some ⟨g, 0, none⟩) sc (vs.set i v') ∧ Below w.heap.size w (W.setCell ⟨g, i * 3 + t, none⟩ u) ∧ Mix (W.setCell ⟨g, i * 3 + t, none⟩ u) i (vs0.set i v') (vs.set i v') xs ∧ (∀ a l, Rg.Tow strE W a l → Rg.Tow strE (W.setCell ⟨g, i * 3 + t, none⟩ u) a l) := by
  obtain ⟨C, kg⟩ := hS.typed g rfl
  have o := Rg.Only.setCell W g (i * 3 + t) u
  refine ⟨hS.put hi ht u v' hv, hb.trans (o.bel (Nat.le_trans hw hS.own)), ⟨by rw [List.length_set]; exact hX.len, fun j h1 h2 h3 => ?_, fun j h1 => ?_⟩, fun a l q => q.only kg step_str o⟩
  · rw [List.getElem_set_ne (by omega)]
    have q := hX.new j (by simpa using h1) h2 h3
    exact ⟨q.n, q.wants.only kg step_str o, q.nc, q.m, q.nudge.only kg step_str o, q.md, q.s⟩
  · have hl0 : i < vs0.length := by
      have := hX.old i (Nat.le_refl _)
      rw [List.getElem?_eq_getElem hi] at this
      exact (List.getElem?_eq_some_iff.1 this.symm).1
    by_cases hj : j = i
    · subst hj
      rw [List.getElem?_set_self hi, List.getElem?_set_self hl0]
    · rw [List.getElem?_set_ne (Ne.symm hj), List.getElem?_set_ne (Ne.symm hj)]
      exact hX.old j h1
/-- the second field, and the step is laid anew -/
theorem mix_two {w : World} {base g sc i : Nat} {vs0 vs : List SV} {v1 : SV} {xs : List Ch.St} {W : World} (hS : Rg.Sow stepE base W (some ⟨g, 0, none⟩) sc vs) (hX : Mix W i (vs0.set i v1) vs xs) (hw : w.heap.size ≤ base) (hb : Below w.heap.size w W) (hi : i < vs.length) (t : Nat) (ht : t < 3) (u : Value) (v' : SV) (hv : stepE.enc v' = (stepE.enc vs[i]).set t u) (hst : ∀ h2 : i < xs.length, StAt W v' xs[i]) :
    Rg.Sow stepE base (W.setCell ⟨g, i * 3 + t, none⟩ u) (some ⟨g, 0, none⟩) sc (vs.set i v') ∧ Below w.heap.size w (W.setCell ⟨g, i * 3 + t, none⟩ u) ∧ Mix (W.setCell ⟨g, i * 3 + t, none⟩ u) (i + 1) vs0 (vs.set i v') xs := by
  obtain ⟨C, kg⟩ := hS.typed g rfl
  have o := Rg.Only.setCell W g (i * 3 + t) u
  have mv : ∀ v x, StAt W v x → StAt (W.setCell ⟨g, i * 3 + t, none⟩ u) v x := fun v x q => ⟨q.n, q.wants.only kg step_str o, q.nc, q.m, q.nudge.only kg step_str o, q.md, q.s⟩
  refine ⟨hS.put hi ht u v' hv, hb.trans (o.bel (Nat.le_trans hw hS.own)), ⟨by rw [List.length_set]; exact hX.len, fun j h1 h2 h3 => ?_, fun j h1 => ?_⟩⟩
  · by_cases hj : j = i
    · subst hj
      rw [List.getElem_set_self]
      exact mv _ _ (hst h2)
    · rw [List.getElem_set_ne (Ne.symm hj)]
      exact mv _ _ (hX.new j (by simpa using h1) h2 (by omega))
  · rw [List.getElem?_set_ne (by omega)]
    have := hX.old j (by omega)
    rw [List.getElem?_set_ne (by omega)] at this
    exact this

set_option maxHeartbeats 2000000 in
set_option maxRecDepth 100000 in
theorem copy_some_in (b o c : Nat) (vs0 : List SV) (xs : List Ch.St) (w : World) (hl : xs.length ≤ 1000) (hwl : ∀ x ∈ xs, x.wants.length ≤ 1000000 ∧ x.nudge.length ≤ 1000000) (hr : stepE.Row w (some ⟨b, o, none⟩) vs0) (hx : ISts w vs0 xs) :
    Calls Tryd.prog 12 #[.slice (some ⟨b, o, none⟩) xs.length c] w fun e w' => SPost w xs e w' := by
  have HC : Hid (Calls Tryd.prog 22 #[.slice (some ⟨b, o, none⟩) xs.length c] w fun e w' => ∃ g cap, e = .returned (.slice (some ⟨g, 0, none⟩) xs.length cap) ∧ Hid (Rg.Sow stepE w.heap.size w' (some ⟨g, 0, none⟩) cap vs0) ∧ Below w.heap.size w w') := clone_steps_in b o xs.length c vs0 w hx.1.symm hl hr
  unfold SPost
  obtain ⟨n, hn⟩ : ∃ n, n = xs.length := ⟨_, rfl⟩
  rw [← hn] at HC hl ⊢
  replace hn := Rg.hid hn
  replace hx := Rg.hid hx
  replace hwl := Rg.hid hwl
  clear hr
  go_enter Tryd.func12, Tryd.ntmps12
  go_upto_region 2 with (go_at_call 22; refine HC.out.mono ?_; rintro e w1 ⟨g, cap, rfl, hS1, hb1⟩)
  have hX1 : Hid (Mix w1 0 vs0 vs0 xs) := ⟨hx.out.1, fun _ _ _ h => by omega, fun _ _ => rfl⟩
  clear HC
  go_wp2
  go_loopw [10] (fun vi wr => ∃ (i : Nat) (vs : List SV), i ≤ n ∧ vi = .int .i64 i ∧ Hid (Rg.Sow stepE w.heap.size wr (some ⟨g, 0, none⟩) cap vs) ∧ Hid (Mix wr i vs0 vs xs) ∧ Below w.heap.size w wr) (fun vi _ => n - (intOf vi).toNat)
  case atStart => exact ⟨0, vs0, Nat.zero_le _, rfl, hS1, hX1, hb1⟩
  case round =>
    obtain ⟨i, vs, hin, rfl, hS, hX, hbw⟩ := hrel
    clear hS1 hX1 hb1
    by_cases hlt : i < n
    · have hix : i < xs.length := by rw [← hn.out]; exact hlt
      have hiv : i < vs.length := by rw [hX.out.len]; exact hix
      have hi0 : i < vs0.length := by rw [hx.out.1]; exact hix
      have hst0 := hx.out.2 i hi0 hix
      have hwi := hwl.out xs[i] (List.getElem_mem hix)
      have e0 : wr.cell? ⟨g, i * 3, none⟩ = some (.slice vs[i].a vs[i].n vs[i].c) := hS.out.cell (E := stepE) hiv (t := 0) (by decide)
      have e1 : wr.cell? ⟨g, i * 3 + 1, none⟩ = some (.slice vs[i].b vs[i].m vs[i].d) := hS.out.cell (E := stepE) hiv (t := 1) (by decide)
      have e2 : wr.cell? ⟨g, i * 3 + 2, none⟩ = some (.string vs[i].s) := hS.out.cell (E := stepE) hiv (t := 2) (by decide)
      have hz0 : (0 : Int) ≤ (i : Int) := by omega
      have hz1 : (i : Int) < (n : Int) := by omega
      obtain ⟨sv, hsv⟩ : ∃ sv, vs[i] = sv := ⟨_, rfl⟩
      have hsv0 : vs0[i] = sv := by
        have := hX.out.old i (Nat.le_refl _)
        rw [List.getElem?_eq_getElem hiv, List.getElem?_eq_getElem hi0, hsv] at this
        exact (Option.some.inj this).symm
      rw [hsv] at e0 e1 e2
      rw [hsv0] at hst0
      clear hsv0
      obtain ⟨wa, wn, wcp, na, nn, ncp, ss⟩ := sv
      dsimp only at e0 e1 e2
      obtain ⟨D, hD⟩ : ∃ D, D = wr.heap.size := ⟨_, rfl⟩
      have kD4 : Rg.Bk wr.heap.size [.slice wa wn wcp, .slice na nn ncp, .string ss] 28 (wr.alloc (.cells #[.slice wa wn wcp, .slice na nn ncp, .string ss] 28)) := Rg.Bk.new rfl
      have hS4 := Rg.hid (hS.out.below (Rg.al1 wr (.cells #[.slice wa wn wcp, .slice na nn ncp, .string ss] 28)))
      have hX4 := Rg.hid (hX.out.below (Rg.al1 wr (.cells #[.slice wa wn wcp, .slice na nn ncp, .string ss] 28)))
      have hb4 := Rg.chain hbw (Rg.al1 wr (.cells #[.slice wa wn wcp, .slice na nn ncp, .string ss] 28))
      have hgD : g ≠ wr.heap.size := by obtain ⟨C, kg⟩ := hS.out.typed g rfl; exact Nat.ne_of_lt kg.lt
      replace hst0 := Rg.hid hst0
      clear hS hX hbw
      go_upto_region 5 with fail
      clear e0 e1 e2
      generalize World.alloc _ _ = w4 at *
      rw [← hD] at kD4 hgD ⊢
      clear hD
      have HT1 : Hid (∀ W, Below w4.heap.size w4 W → Calls Tryd.prog 23 #[.slice wa wn wcp] W fun e w' => ∃ a' c', e = .returned (.slice a' wn c') ∧ w'.cell? ⟨g, i * 3, none⟩ = some (.slice wa wn wcp) ∧ (∀ q, w'.frozen? ⟨g, q, none⟩ = false) ∧ Hid (Rg.Sow stepE w.heap.size (w'.setCell ⟨g, i * 3, none⟩ (.slice a' wn c')) (some ⟨g, 0, none⟩) cap (vs.set i ⟨a', wn, c', na, nn, ncp, ss⟩)) ∧ Hid (Mix (w'.setCell ⟨g, i * 3, none⟩ (.slice a' wn c')) i (vs0.set i ⟨a', wn, c', na, nn, ncp, ss⟩) (vs.set i ⟨a', wn, c', na, nn, ncp, ss⟩) xs) ∧ Hid (Below w.heap.size w (w'.setCell ⟨g, i * 3, none⟩ (.slice a' wn c'))) ∧ Hid (Rg.Bk D [.slice wa wn wcp, .slice na nn ncp, .string ss] 28 (w'.setCell ⟨g, i * 3, none⟩ (.slice a' wn c'))) ∧ Hid (Rg.Tow strE (w'.setCell ⟨g, i * 3, none⟩ (.slice a' wn c')) a' xs[i].wants ∧ wn ≤ c')) := fun W hW => by
        have h := clone_texts_in wa wcp xs[i].wants W hwi.1 ((hst0.out.below (Rg.chain hb4 hW)).wants)
        rw [← hst0.out.n] at h
        refine h.mono fun e w' ⟨a', c', h1, h2, h3, h4⟩ => ?_
        have hb := Rg.chain hW h4
        have hs1 := hS4.out.below hb
        have hx1 := hX4.out.below hb
        obtain ⟨p1, p2, p3, p4⟩ := mix_one (w := w) hs1 hx1 (Nat.le_refl _) (Rg.chain hb4 hb) hiv 0 (by decide) (.slice a' wn c') ⟨a', wn, c', na, nn, ncp, ss⟩ (by rw [hsv]; rfl)
        exact ⟨a', c', h1, by have := hs1.cell (E := stepE) hiv (t := 0) (by decide); rw [hsv] at this; exact this, hs1.thaw, p1, p3, p2, (kD4.below hb kD4.lt).same ((Rg.Only.setCell w' g (i * 3 + 0) _).block D (Ne.symm hgD)), p4 _ _ h2, h3⟩
      have d0 : w4.cell? ⟨D, 0, none⟩ = some (.slice wa wn wcp) := kD4.cell 0
      replace kD4 := Rg.hid kD4
      go_upto_region 6 with (go_at_call 23; refine (HT1.out _ (Below.refl _ _)).mono ?_; rintro e w5 ⟨a5, c5, rfl, z5, f5, hS5, hX5, hb5, kD5, hw5⟩)
      clear HT1 z5 f5 d0 kD4 hS4 hX4 hb4
      generalize World.setCell _ _ _ = w6 at *
      have hiv2 : i < (vs.set i ⟨a5, wn, c5, na, nn, ncp, ss⟩).length := by rw [List.length_set]; exact hiv
      have hsv2 : (vs.set i ⟨a5, wn, c5, na, nn, ncp, ss⟩)[i] = ⟨a5, wn, c5, na, nn, ncp, ss⟩ := List.getElem_set_self hiv2
      clear hsv
      generalize vs.set i ⟨a5, wn, c5, na, nn, ncp, ss⟩ = vs2 at *
      have HT2 : Hid (∀ W, Below w6.heap.size w6 W → Calls Tryd.prog 23 #[.slice na nn ncp] W fun e w' => ∃ a' c' vs3, e = .returned (.slice a' nn c') ∧ w'.cell? ⟨g, i * 3 + 1, none⟩ = some (.slice na nn ncp) ∧ (∀ q, w'.frozen? ⟨g, q, none⟩ = false) ∧ Hid (Rg.Sow stepE w.heap.size (w'.setCell ⟨g, i * 3 + 1, none⟩ (.slice a' nn c')) (some ⟨g, 0, none⟩) cap vs3) ∧ Hid (Mix (w'.setCell ⟨g, i * 3 + 1, none⟩ (.slice a' nn c')) (i + 1) vs0 vs3 xs) ∧ Hid (Below w.heap.size w (w'.setCell ⟨g, i * 3 + 1, none⟩ (.slice a' nn c')))) := fun W hW => by
        have h := clone_texts_in na ncp xs[i].nudge W hwi.2 ((hst0.out.below (Rg.chain hb5.out hW)).nudge)
        rw [← hst0.out.m] at h
        refine h.mono fun e w' ⟨a', c', h1, h2, h3, h4⟩ => ?_
        have hb := Rg.chain hW h4
        have hs1 := hS5.out.below hb
        have hx1 := hX5.out.below hb
        obtain ⟨p1, p2, p3⟩ := mix_two (w := w) hs1 hx1 (Nat.le_refl _) (Rg.chain hb5.out hb) hiv2 1 (by decide) (.slice a' nn c') ⟨a5, wn, c5, a', nn, c', ss⟩ (by rw [hsv2]; rfl) (fun h2' => ⟨hst0.out.n, hw5.out.1.below hb, hw5.out.2, hst0.out.m, h2, h3, hst0.out.s⟩)
        exact ⟨a', c', _, h1, by have := hs1.cell (E := stepE) hiv2 (t := 1) (by decide); rw [hsv2] at this; exact this, hs1.thaw, p1, p3, p2⟩
      have d1 : w6.cell? ⟨D, 1, none⟩ = some (.slice na nn ncp) := kD5.out.cell 1
      clear hS5 hX5 hb5 kD5 hsv2 hwi hw5 hst0
      go_upto_region 7 with (go_at_call 23; refine (HT2.out _ (Below.refl _ _)).mono ?_; rintro e w7 ⟨a7, c7, vs7, rfl, z7, f7, hS7, hX7, hb7⟩)
      clear HT2 z7 f7 d1
      generalize World.setCell _ _ _ = w8 at *
      go_wp2
      go_roundw
      case rel => exact ⟨i + 1, vs7, by omega, by go_num, hS7, hX7, hb7.out⟩
      case measure => simp [intOf]; omega
    · have hie : i = n := by omega
      subst i
      have hle : n ≤ cap := by rw [hn.out, ← hX.out.len]; exact hS.out.le
      have hX9 := Rg.hid (hX.out.all (by rw [← hn.out]; exact Nat.le_refl _))
      replace hS := Rg.hid hS.out.tow
      clear hin hlt hX
      go_wp2
      go_ret
      exact ⟨_, _, vs, rfl, hS.out, hX9.out, hle, hbw⟩
end Go.Proofs.YtpggnhnpphbaeaaDoor
