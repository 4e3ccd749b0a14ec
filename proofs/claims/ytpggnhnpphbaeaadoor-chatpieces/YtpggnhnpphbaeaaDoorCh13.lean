/-
  Layer 8: copySteps.
-/
import Derived.Test.YtpggnhnpphbaeaaDoorCh9
import Derived.Shelf.SlicesE.Clone
namespace Go.Proofs.YtpggnhnpphbaeaaDoor
open Go.RowKit

def cl_ren : Go.Shelf.Ren := ⟨fun | 41 => 22 | n => n, fun | 22 => 22 | 23 => 28 | 4 => 4 | n => n, fun | n => n⟩
theorem clLays : Go.Proofs.SlLaysE0.n41 Tryd.prog cl_ren := {
  mixed := by kernel_rfl
  f41 := ⟨Tryd.f22.name, by decide, Tryd.func22.trans (congrArg some (by kernel_rfl))⟩
  t4 := Tryd.underlying4
  a4 := Tryd.isAgg4
  z4 := Tryd.sizeOf4
  v4 := Tryd.zeroValue4
  t22 := Tryd.underlying22
  a22 := Tryd.isAgg22
  z22 := Tryd.sizeOf22
  v22 := Tryd.zeroValue22 }
/-- slices.Clone of steps -/
theorem clone_steps (b o n c : Nat) (vs : List SV) (w : World) (hn : n = vs.length) (hl : n ≤ 1000) (hr : Rg.Tow stepE w (some ⟨b, o, none⟩) vs) :
    Calls Tryd.prog 22 #[.slice (some ⟨b, o, none⟩) n c] w fun e w' => ∃ g cap, e = .returned (.slice (some ⟨g, 0, none⟩) n cap) ∧ Rg.Sow stepE w.heap.size w' (some ⟨g, 0, none⟩) cap vs ∧ Below w.heap.size w w' := by
  obtain ⟨i0, hi, hz0, hz1, hz2⟩ := infoStep'
  subst hn
  refine (Go.Proofs.AnyE.slices_Clone clLays i0 _ 3 64 hi hz0 hz1 hz2 rfl (by decide) Tryd.sizeOf28 b o vs.length c (stepE.flat vs) w (stepE.flat_length vs) (by unfold maxLen; omega) (by omega) hr.1.some.2 (stepE.flat_cells vs)).mono fun e w' ⟨v', h1, h2, h3, h4⟩ => ?_
  obtain ⟨g, cap, rest, e2, h5⟩ := Rg.El.Own.of (E := stepE) h2 h3 rfl
  exact ⟨g, cap, by rw [h1, e2], .inr ⟨g, rest, rfl, h5⟩, h4⟩
/-- slices.Clone of texts -/
theorem clone_texts (a : Option Addr) (c : Nat) (l : List ByteArray) (w : World) (hl : l.length ≤ 1000000) (hr : Rg.Tow strE w a l) :
    Calls Tryd.prog 23 #[.slice a l.length c] w fun e w' => ∃ a' c', e = .returned (.slice a' l.length c') ∧ Rg.Tow strE w' a' l ∧ l.length ≤ c' ∧ Below w.heap.size w w' := by
  rcases hr.1 with ⟨rfl, rfl⟩ | ⟨b, o, rfl, hb, hat⟩
  · exact (Tryd.slices_Clone_string_nil 0 c w).mono fun e w' ⟨h1, h2⟩ => ⟨none, 0, h1, Rg.Tow.nil, Nat.le_refl _, by rw [h2]; exact Below.refl _ _⟩
  · refine (Tryd.slices_Clone_string b o l.length c l w (Nat.le_refl _) (by omega) (fun j hj => by rw [str_cell hr hj, List.getD_eq_getElem?_getD, List.getElem?_eq_getElem hj]; rfl)).mono fun e w' ⟨v', h1, h2, h3, h4⟩ => ?_
    rw [List.take_length, ← str_flat] at h2
    obtain ⟨g, cap, rest, e2, h5⟩ := Rg.El.Own.of (E := strE) h2 h3 rfl
    exact ⟨some ⟨g, 0, none⟩, cap, by rw [h1, e2], h5.tow, h5.le, h4⟩
/-- behind a call that hands back steps -/
def SPost (w : World) (xs : List Ch.St) (e : Ending) (w' : World) : Prop := ∃ a c vs, e = .returned (.slice a xs.length c) ∧ Rg.Tow stepE w' a vs ∧ StsAt w' vs xs ∧ xs.length ≤ c ∧ Below w.heap.size w w'
/-- a list of texts laid anew in a step -/
theorem put_field {w : World} {base g sc i : Nat} {vs : List SV} {xs : List Ch.St} {W : World} (hS : Rg.Sow stepE base W (some ⟨g, 0, none⟩) sc vs) (hX : StsAt W vs xs) (hw : w.heap.size ≤ base) (hb : Below w.heap.size w W) (hi : i < vs.length) (t : Nat) (ht : t < 3) (u : Value) (v' : SV) (hv : stepE.enc v' = (stepE.enc vs[i]).set t u) (hix : i < xs.length) (hst : StAt W v' xs[i]) :
    Rg.Sow stepE base (W.setCell ⟨g, i * 3 + t, none⟩ u) (some ⟨g, 0, none⟩) sc (vs.set i v') ∧ StsAt (W.setCell ⟨g, i * 3 + t, none⟩ u) (vs.set i v') xs ∧ Below w.heap.size w (W.setCell ⟨g, i * 3 + t, none⟩ u) := by
  obtain ⟨C, kg⟩ := hS.typed g rfl
  have o := Rg.Only.setCell W g (i * 3 + t) u
  refine ⟨hS.put hi ht u v' hv, ?_, hb.trans (o.bel (Nat.le_trans hw hS.own))⟩
  have h := (hX.put hst i).only kg step_str o
  rw [List.set_getElem_self] at h
  exact h

set_option maxHeartbeats 2000000 in
set_option maxRecDepth 100000 in
theorem copy_some (b o c : Nat) (vs0 : List SV) (xs : List Ch.St) (w : World) (hl : xs.length ≤ 1000) (hwl : ∀ x ∈ xs, x.wants.length ≤ 1000000 ∧ x.nudge.length ≤ 1000000) (hr : Rg.Tow stepE w (some ⟨b, o, none⟩) vs0) (hx : StsAt w vs0 xs) :
    Calls Tryd.prog 12 #[.slice (some ⟨b, o, none⟩) xs.length c] w fun e w' => SPost w xs e w' := by
  have HC : Hid (∀ W, Below w.heap.size w W → Calls Tryd.prog 22 #[.slice (some ⟨b, o, none⟩) xs.length c] W fun e w' => ∃ g cap, e = .returned (.slice (some ⟨g, 0, none⟩) xs.length cap) ∧ Hid (Rg.Sow stepE W.heap.size w' (some ⟨g, 0, none⟩) cap vs0) ∧ Below W.heap.size W w') := fun W hW => clone_steps b o xs.length c vs0 W hx.len.symm hl (hr.below hW)
  unfold SPost
  obtain ⟨n, hn⟩ : ∃ n, n = xs.length := ⟨_, rfl⟩
  rw [← hn] at HC hl ⊢
  replace hn := Rg.hid hn
  replace hx := Rg.hid hx
  replace hwl := Rg.hid hwl
  clear hr
  go_enter Tryd.func12, Tryd.ntmps12
  go_upto_region 2 with (go_at_call 22; refine (HC.out _ (Below.refl _ _)).mono ?_; rintro e w1 ⟨g, cap, rfl, hS1, hb1⟩)
  have hX1 : Hid (StsAt w1 vs0 xs) := hx.out.below hb1
  clear hx HC
  go_wp2
  go_loopw [10] (fun vi wr => ∃ (i : Nat) (vs : List SV), i ≤ n ∧ vi = .int .i64 i ∧ Hid (Rg.Sow stepE w.heap.size wr (some ⟨g, 0, none⟩) cap vs) ∧ Hid (StsAt wr vs xs) ∧ Below w.heap.size w wr) (fun vi _ => n - (intOf vi).toNat)
  case atStart => exact ⟨0, vs0, Nat.zero_le _, rfl, hS1, hX1, hb1⟩
  case round =>
    obtain ⟨i, vs, hin, rfl, hS, hX, hbw⟩ := hrel
    clear hS1 hX1 hb1
    by_cases hlt : i < n
    · have hix : i < xs.length := by rw [← hn.out]; exact hlt
      have hiv : i < vs.length := by rw [hX.out.len]; exact hix
      have hst := hX.out.get i hiv hix
      have hwi := hwl.out xs[i] (List.getElem_mem hix)
      have e0 : wr.cell? ⟨g, i * 3, none⟩ = some (.slice vs[i].a vs[i].n vs[i].c) := hS.out.cell (E := stepE) hiv (t := 0) (by decide)
      have e1 : wr.cell? ⟨g, i * 3 + 1, none⟩ = some (.slice vs[i].b vs[i].m vs[i].d) := hS.out.cell (E := stepE) hiv (t := 1) (by decide)
      have e2 : wr.cell? ⟨g, i * 3 + 2, none⟩ = some (.string vs[i].s) := hS.out.cell (E := stepE) hiv (t := 2) (by decide)
      have hz0 : (0 : Int) ≤ (i : Int) := by omega
      have hz1 : (i : Int) < (n : Int) := by omega
      obtain ⟨sv, hsv⟩ : ∃ sv, vs[i] = sv := ⟨_, rfl⟩
      rw [hsv] at e0 e1 e2 hst
      obtain ⟨wa, wn, wcp, na, nn, ncp, ss⟩ := sv
      dsimp only at e0 e1 e2
      obtain ⟨D, hD⟩ : ∃ D, D = wr.heap.size := ⟨_, rfl⟩
      have kD4 : Rg.Bk wr.heap.size [.slice wa wn wcp, .slice na nn ncp, .string ss] 28 (wr.alloc (.cells #[.slice wa wn wcp, .slice na nn ncp, .string ss] 28)) := Rg.Bk.new rfl
      have hS4 := Rg.hid (hS.out.below (Rg.al1 wr (.cells #[.slice wa wn wcp, .slice na nn ncp, .string ss] 28)))
      have hX4 := Rg.hid (hX.out.below (Rg.al1 wr (.cells #[.slice wa wn wcp, .slice na nn ncp, .string ss] 28)))
      have hb4 := Rg.chain hbw (Rg.al1 wr (.cells #[.slice wa wn wcp, .slice na nn ncp, .string ss] 28))
      have hst4 := Rg.hid (hst.below (Rg.al1 wr (.cells #[.slice wa wn wcp, .slice na nn ncp, .string ss] 28)))
      have hgD : g ≠ wr.heap.size := by obtain ⟨C, kg⟩ := hS.out.typed g rfl; exact Nat.ne_of_lt kg.lt
      clear hS hX hbw hst
      go_upto_region 5 with fail
      clear e0 e1 e2
      generalize World.alloc _ _ = w4 at *
      rw [← hD] at kD4 hgD ⊢
      clear hD
      have HT1 : Hid (∀ W, Below w4.heap.size w4 W → Calls Tryd.prog 23 #[.slice wa wn wcp] W fun e w' => ∃ a' c', e = .returned (.slice a' wn c') ∧ w'.cell? ⟨g, i * 3, none⟩ = some (.slice wa wn wcp) ∧ (∀ q, w'.frozen? ⟨g, q, none⟩ = false) ∧ Hid (Rg.Sow stepE w.heap.size (w'.setCell ⟨g, i * 3, none⟩ (.slice a' wn c')) (some ⟨g, 0, none⟩) cap (vs.set i ⟨a', wn, c', na, nn, ncp, ss⟩)) ∧ Hid (StsAt (w'.setCell ⟨g, i * 3, none⟩ (.slice a' wn c')) (vs.set i ⟨a', wn, c', na, nn, ncp, ss⟩) xs) ∧ Hid (Below w.heap.size w (w'.setCell ⟨g, i * 3, none⟩ (.slice a' wn c'))) ∧ Hid (Rg.Bk D [.slice wa wn wcp, .slice na nn ncp, .string ss] 28 (w'.setCell ⟨g, i * 3, none⟩ (.slice a' wn c')))) := fun W hW => by
        have h := clone_texts wa wcp xs[i].wants W hwi.1 (hst4.out.wants.below hW)
        rw [← hst4.out.n] at h
        refine h.mono fun e w' ⟨a', c', h1, h2, h3, h4⟩ => ?_
        have hb := Rg.chain hW h4
        have hs1 := hS4.out.below hb
        have hx1 := hX4.out.below hb
        have hs4 := hst4.out.below hb
        obtain ⟨p1, p2, p3⟩ := put_field (w := w) hs1 hx1 (Nat.le_refl _) (Rg.chain hb4 hb) hiv 0 (by decide) (.slice a' wn c') ⟨a', wn, c', na, nn, ncp, ss⟩ (by rw [hsv]; rfl) hix ⟨hs4.n, h2, h3, hs4.m, hs4.nudge, hs4.md, hs4.s⟩
        exact ⟨a', c', h1, by have := hs1.cell (E := stepE) hiv (t := 0) (by decide); rw [hsv] at this; exact this, hs1.thaw, p1, p2, p3, (kD4.below hb kD4.lt).same ((Rg.Only.setCell w' g (i * 3 + 0) _).block D (Ne.symm hgD))⟩
      have d0 : w4.cell? ⟨D, 0, none⟩ = some (.slice wa wn wcp) := kD4.cell 0
      replace kD4 := Rg.hid kD4
      go_upto_region 6 with (go_at_call 23; refine (HT1.out _ (Below.refl _ _)).mono ?_; rintro e w5 ⟨a5, c5, rfl, z5, f5, hS5, hX5, hb5, kD5⟩)
      clear HT1 z5 f5 d0 kD4 hS4 hX4 hb4 hst4
      generalize World.setCell _ _ _ = w6 at *
      have hiv2 : i < (vs.set i ⟨a5, wn, c5, na, nn, ncp, ss⟩).length := by rw [List.length_set]; exact hiv
      have hsv2 : (vs.set i ⟨a5, wn, c5, na, nn, ncp, ss⟩)[i] = ⟨a5, wn, c5, na, nn, ncp, ss⟩ := List.getElem_set_self hiv2
      clear hsv
      generalize vs.set i ⟨a5, wn, c5, na, nn, ncp, ss⟩ = vs2 at *
      have hst6 := hX5.out.get i hiv2 hix
      rw [hsv2] at hst6
      have HT2 : Hid (∀ W, Below w6.heap.size w6 W → Calls Tryd.prog 23 #[.slice na nn ncp] W fun e w' => ∃ a' c' vs3, e = .returned (.slice a' nn c') ∧ w'.cell? ⟨g, i * 3 + 1, none⟩ = some (.slice na nn ncp) ∧ (∀ q, w'.frozen? ⟨g, q, none⟩ = false) ∧ Hid (Rg.Sow stepE w.heap.size (w'.setCell ⟨g, i * 3 + 1, none⟩ (.slice a' nn c')) (some ⟨g, 0, none⟩) cap vs3) ∧ Hid (StsAt (w'.setCell ⟨g, i * 3 + 1, none⟩ (.slice a' nn c')) vs3 xs) ∧ Hid (Below w.heap.size w (w'.setCell ⟨g, i * 3 + 1, none⟩ (.slice a' nn c')))) := fun W hW => by
        have h := clone_texts na ncp xs[i].nudge W hwi.2 (hst6.nudge.below hW)
        rw [← hst6.m] at h
        refine h.mono fun e w' ⟨a', c', h1, h2, h3, h4⟩ => ?_
        have hb := Rg.chain hW h4
        have hs1 := hS5.out.below hb
        have hx1 := hX5.out.below hb
        have hs4 := hst6.below hb
        obtain ⟨p1, p2, p3⟩ := put_field (w := w) hs1 hx1 (Nat.le_refl _) (Rg.chain hb5.out hb) hiv2 1 (by decide) (.slice a' nn c') ⟨a5, wn, c5, a', nn, c', ss⟩ (by rw [hsv2]; rfl) hix ⟨hs4.n, hs4.wants, hs4.nc, hs4.m, h2, h3, hs4.s⟩
        exact ⟨a', c', _, h1, by have := hs1.cell (E := stepE) hiv2 (t := 1) (by decide); rw [hsv2] at this; exact this, hs1.thaw, p1, p2, p3⟩
      have d1 : w6.cell? ⟨D, 1, none⟩ = some (.slice na nn ncp) := kD5.out.cell 1
      clear hS5 hX5 hb5 kD5 hst6 hsv2 hwi
      go_upto_region 7 with (go_at_call 23; refine (HT2.out _ (Below.refl _ _)).mono ?_; rintro e w7 ⟨a7, c7, vs7, rfl, z7, f7, hS7, hX7, hb7⟩)
      clear HT2 z7 f7 d1
      generalize World.setCell _ _ _ = w8 at *
      go_wp2
      go_roundw
      case rel => exact ⟨i + 1, vs7, by omega, by go_num, hS7, hX7, hb7.out⟩
      case measure => simp [intOf]; omega
    · have hie : i = n := by omega
      subst i
      have hle : n ≤ cap := by rw [hn.out, ← hX.out.len]; exact hS.out.le
      replace hS := Rg.hid hS.out.tow
      clear hin hlt
      go_wp2
      go_ret
      exact ⟨_, _, vs, rfl, hS.out, hX.out, hle, hbw⟩

set_option maxHeartbeats 1000000 in
set_option maxRecDepth 100000 in
theorem copy_none (c : Nat) (w : World) : Calls Tryd.prog 12 #[.slice none 0 c] w fun e w' => SPost w [] e w' := by
  have HC : Hid (∀ W, Calls Tryd.prog 22 #[.slice none 0 c] W fun e w' => e = .returned (.slice none 0 0) ∧ W = w') := fun W => (Go.Proofs.AnyE.slices_Clone_nil clLays 0 c W).mono fun e w' h => ⟨h.1, h.2.symm⟩
  go_enter Tryd.func12, Tryd.ntmps12
  go_upto_region 2 with (go_at_call 22; refine (HC.out _).mono ?_; rintro e w1 ⟨rfl, rfl⟩)
  go_wp2
  go_loopw [10] (fun vi wr => vi = .int .i64 0 ∧ w = wr) (fun _ _ => 0)
  case atStart => exact ⟨rfl, rfl⟩
  case round =>
    obtain ⟨rfl, rfl⟩ := hrel
    go_wp2
    go_ret
    exact ⟨none, 0, [], rfl, Rg.Tow.nil, trivial, Nat.le_refl _, Below.refl _ _⟩
theorem copy_any (a : Option Addr) (c : Nat) (vs : List SV) (xs : List Ch.St) (w : World) (hl : xs.length ≤ 1000) (hwl : ∀ x ∈ xs, x.wants.length ≤ 1000000 ∧ x.nudge.length ≤ 1000000) (hr : Rg.Tow stepE w a vs) (hx : StsAt w vs xs) :
    Calls Tryd.prog 12 #[.slice a xs.length c] w fun e w' => SPost w xs e w' := by
  rcases hr.1 with ⟨rfl, rfl⟩ | ⟨b, o, rfl, -, -⟩
  · cases xs with
    | nil => exact copy_none c w
    | cons x xs => cases hx
  · exact copy_some b o c vs xs w hl hwl hr hx
end Go.Proofs.YtpggnhnpphbaeaaDoor
