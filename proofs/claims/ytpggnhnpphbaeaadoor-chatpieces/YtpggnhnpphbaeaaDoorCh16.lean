/-
  Layer 8: the statements' lists and steps, of what is the same.
-/
import Derived.Test.YtpggnhnpphbaeaaDoorCh5
namespace Go.Proofs.YtpggnhnpphbaeaaDoor
open Go.RowKit

theorem srow_cell {W : World} {b o : Nat} {l : List ByteArray} (h : strE.Row W (some ⟨b, o, none⟩) l) {i : Nat} (hi : i < l.length) : W.cell? ⟨b, o + i, none⟩ = some (.string l[i]) := by
  have e := (h.some.2.elem hi) 0 _ rfl
  rw [show strE.m = 1 from rfl, Nat.mul_one, Nat.add_zero] at e
  exact e
theorem row_place {α : Type} {E : Rg.El α} {W : World} {a : Option Addr} {l : List α} (h : E.Row W a l) {i : Nat} (hi : i < l.length) : ∃ b o, a = some ⟨b, o, none⟩ := by
  rcases h with ⟨_, rfl⟩ | ⟨b, o, e, _⟩
  · simp at hi
  · exact ⟨b, o, e⟩

set_option maxHeartbeats 1000000 in
set_option maxRecDepth 100000 in
theorem lists_same (a : Option Addr) (ca : Nat) (b : Option Addr) (cb : Nat) (l : List ByteArray) (w : World) (hl : l.length ≤ 1000000000) (hra : strE.Row w a l) (hrb : strE.Row w b l) :
    Calls Tryd.prog 24 #[.slice a l.length ca, .slice b l.length cb] w fun e w' => e = .returned (.bool true) ∧ Below w.heap.size w w' := by
  obtain ⟨N, hN⟩ : ∃ N, N = l.length := ⟨_, rfl⟩
  rw [← hN] at hl ⊢
  replace hN := Rg.hid hN
  replace hra := Rg.hid hra
  replace hrb := Rg.hid hrb
  have en : ((N : Int) != (N : Int)) = false := by simp
  go_enter Tryd.func24, Tryd.ntmps24
  go_wp2
  go_loopw [13] (fun vi wr => ∃ (i : Nat), i ≤ N ∧ vi = .int .i64 i ∧ Below w.heap.size w wr) (fun vi _ => N - (intOf vi).toNat)
  case atStart => exact ⟨0, Nat.zero_le _, rfl, Below.refl _ _⟩
  case round =>
    obtain ⟨i, hin, rfl, hbw⟩ := hrel
    by_cases hlt : i < N
    · have hil : i < l.length := by rw [← hN.out]; exact hlt
      obtain ⟨b1, o1, rfl⟩ := row_place hra.out hil
      obtain ⟨b2, o2, rfl⟩ := row_place hrb.out hil
      have c1 : wr.cell? ⟨b1, o1 + i, none⟩ = some (.string l[i]) := srow_cell (hra.out.below hbw) hil
      have c2 : wr.cell? ⟨b2, o2 + i, none⟩ = some (.string l[i]) := srow_cell (hrb.out.below hbw) hil
      have hz0 : (0 : Int) ≤ (i : Int) := by omega
      have hz1 : (i : Int) < (N : Int) := by omega
      have d0 : (l[i].toList == l[i].toList) = true := by simp
      have d1 : (l[i].toList != l[i].toList) = false := by simp
      generalize l[i] = x at *
      have hbd := hbw.drew
      go_upto_region 6 with fail
      go_region_held3 (fun w' => w'.cell? ⟨b1, o1 + i, none⟩ = some (.string x) ∧ w'.cell? ⟨b2, o2 + i, none⟩ = some (.string x)) (go_keep) (fail)
      clear c1 c2
      go_wp2
      go_roundw
      case rel => exact ⟨i + 1, by omega, by go_num, (by first | exact hbd | exact hbw)⟩
      case measure => simp [intOf]; omega
    · obtain rfl : i = N := by omega
      go_wp2
      go_ret
      exact ⟨rfl, hbw⟩
/-- a step in memory that is only read -/
structure OSt (W : World) (v : SV) (x : Ch.St) : Prop where
  n : v.n = x.wants.length
  wants : strE.Row W v.a x.wants
  m : v.m = x.nudge.length
  nudge : strE.Row W v.b x.nudge
  s : v.s = x.send
def OSts (W : World) : List SV → List Ch.St → Prop
  | [], [] => True
  | v :: vs, x :: xs => OSt W v x ∧ OSts W vs xs
  | _, _ => False
theorem StsAt.old {W : World} : ∀ {vs : List SV} {xs : List Ch.St}, StsAt W vs xs → OSts W vs xs
  | [], [], _ => trivial
  | _ :: _, _ :: _, h => ⟨⟨h.1.n, h.1.wants.1, h.1.m, h.1.nudge.1, h.1.s⟩, StsAt.old h.2⟩
  | [], _ :: _, h => by cases h
  | _ :: _, [], h => by cases h
theorem OSts.len {W : World} : ∀ {vs : List SV} {xs : List Ch.St}, OSts W vs xs → vs.length = xs.length
  | [], [], _ => rfl
  | _ :: vs, _ :: xs, h => by simp [OSts.len h.2]
  | [], _ :: _, h => by cases h
  | _ :: _, [], h => by cases h
theorem OSts.get {W : World} : ∀ {vs : List SV} {xs : List Ch.St} (_ : OSts W vs xs) (i : Nat) (h1 : i < vs.length) (h2 : i < xs.length), OSt W vs[i] xs[i]
  | v :: vs, x :: xs, h, 0, _, _ => h.1
  | v :: vs, x :: xs, h, i + 1, h1, h2 => OSts.get h.2 i (by simpa using h1) (by simpa using h2)
  | [], _ :: _, h, _, _, _ => by cases h
  | _ :: _, [], h, _, _, _ => by cases h
  | [], [], _, _, h, _ => by simp at h
theorem OSt.below {W W' : World} {v : SV} {x : Ch.St} (h : OSt W v x) (hb : Below W.heap.size W W') : OSt W' v x := ⟨h.n, h.wants.below hb, h.m, h.nudge.below hb, h.s⟩

set_option maxHeartbeats 2000000 in
set_option maxRecDepth 100000 in
theorem steps_same (a : Option Addr) (ca : Nat) (va : List SV) (b : Option Addr) (cb : Nat) (vb : List SV) (xs : List Ch.St) (w : World) (hl : xs.length ≤ 1000000000) (hwl : ∀ x ∈ xs, x.wants.length ≤ 1000000000 ∧ x.nudge.length ≤ 1000000000) (hra : stepE.Row w a va) (hrb : stepE.Row w b vb) (hxa : OSts w va xs) (hxb : OSts w vb xs) :
    Calls Tryd.prog 14 #[.slice a xs.length ca, .slice b xs.length cb] w fun e w' => e = .returned (.bool true) ∧ Below w.heap.size w w' := by
  obtain ⟨N, hN⟩ : ∃ N, N = xs.length := ⟨_, rfl⟩
  rw [← hN] at hl ⊢
  replace hN := Rg.hid hN
  replace hra := Rg.hid hra
  replace hrb := Rg.hid hrb
  replace hxa := Rg.hid hxa
  replace hxb := Rg.hid hxb
  replace hwl := Rg.hid hwl
  have en : ((N : Int) != (N : Int)) = false := by simp
  go_enter Tryd.func14, Tryd.ntmps14
  go_wp2
  go_loopw [13] (fun vi wr => ∃ (i : Nat), i ≤ N ∧ vi = .int .i64 i ∧ Below w.heap.size w wr) (fun vi _ => N - (intOf vi).toNat)
  case atStart => exact ⟨0, Nat.zero_le _, rfl, Below.refl _ _⟩
  case round =>
    obtain ⟨i, hin, rfl, hbw⟩ := hrel
    by_cases hlt : i < N
    · have hil : i < xs.length := by rw [← hN.out]; exact hlt
      have hia : i < va.length := by rw [hxa.out.len]; exact hil
      have hib : i < vb.length := by rw [hxb.out.len]; exact hil
      have hwi := hwl.out xs[i] (List.getElem_mem hil)
      have hsa := hxa.out.get i hia hil
      have hsb := hxb.out.get i hib hil
      obtain ⟨b1, o1, rfl⟩ := row_place hra.out hia
      obtain ⟨b2, o2, rfl⟩ := row_place hrb.out hib
      have elA : ∀ W, Below w.heap.size w W → Rg.At W b1 (o1 + i * 3) (stepE.enc va[i]) := fun W hW => (hra.out.below hW).some.2.elem hia
      have elB : ∀ W, Below w.heap.size w W → Rg.At W b2 (o2 + i * 3) (stepE.enc vb[i]) := fun W hW => (hrb.out.below hW).some.2.elem hib
      generalize xs[i] = st at *
      generalize va[i] = u at *
      generalize vb[i] = v at *
      obtain ⟨ws, ns, sd⟩ := st
      obtain ⟨ua, un, uc, ub, um, ud, us⟩ := u
      obtain ⟨xa, xn, xc, xb, xm, xd, xs'⟩ := v
      obtain ⟨h1, h2, h3, h4, h5⟩ := hsa
      obtain ⟨k1, k2, k3, k4, k5⟩ := hsb
      dsimp only at h1 h2 h3 h4 h5 k1 k2 k3 k4 k5 hwi
      subst k5
      subst h5
      have HF : Hid (∀ W, Below w.heap.size w W → W.cell? ⟨b1, o1 + i * 3, none⟩ = some (.slice ua un uc) ∧ W.cell? ⟨b1, o1 + i * 3 + 1, none⟩ = some (.slice ub um ud) ∧ W.cell? ⟨b1, o1 + i * 3 + 2, none⟩ = some (.string us) ∧ W.cell? ⟨b2, o2 + i * 3, none⟩ = some (.slice xa un xc) ∧ W.cell? ⟨b2, o2 + i * 3 + 1, none⟩ = some (.slice xb um xd) ∧ W.cell? ⟨b2, o2 + i * 3 + 2, none⟩ = some (.string us)) := fun W hW => by
        have e1 := elA W hW
        have e2 := elB W hW
        have q1 := e2 0 _ rfl
        have q2 := e2 1 _ rfl
        rw [k1, ← h1] at q1
        rw [k3, ← h3] at q2
        exact ⟨e1 0 _ rfl, e1 1 _ rfl, e1 2 _ rfl, q1, q2, e2 2 _ rfl⟩
      have HL1 : Hid (∀ W, Below w.heap.size w W → Calls Tryd.prog 24 #[.slice ua un uc, .slice xa un xc] W fun e w' => e = .returned (.bool true) ∧ Below w.heap.size w w' ∧ w'.cell? ⟨b1, o1 + i * 3, none⟩ = some (.slice ua un uc) ∧ w'.cell? ⟨b1, o1 + i * 3 + 1, none⟩ = some (.slice ub um ud) ∧ w'.cell? ⟨b1, o1 + i * 3 + 2, none⟩ = some (.string us) ∧ w'.cell? ⟨b2, o2 + i * 3, none⟩ = some (.slice xa un xc) ∧ w'.cell? ⟨b2, o2 + i * 3 + 1, none⟩ = some (.slice xb um xd) ∧ w'.cell? ⟨b2, o2 + i * 3 + 2, none⟩ = some (.string us)) := fun W hW => by
        have := lists_same ua uc xa xc ws W hwi.1 (h2.below hW) (k2.below hW)
        rw [← h1] at this
        exact this.mono fun e w' ⟨p1, p2⟩ => ⟨p1, Rg.chain hW p2, HF.out _ (Rg.chain hW p2)⟩
      have HL2 : Hid (∀ W, Below w.heap.size w W → Calls Tryd.prog 24 #[.slice ub um ud, .slice xb um xd] W fun e w' => e = .returned (.bool true) ∧ Below w.heap.size w w' ∧ w'.cell? ⟨b1, o1 + i * 3, none⟩ = some (.slice ua un uc) ∧ w'.cell? ⟨b1, o1 + i * 3 + 1, none⟩ = some (.slice ub um ud) ∧ w'.cell? ⟨b1, o1 + i * 3 + 2, none⟩ = some (.string us) ∧ w'.cell? ⟨b2, o2 + i * 3, none⟩ = some (.slice xa un xc) ∧ w'.cell? ⟨b2, o2 + i * 3 + 1, none⟩ = some (.slice xb um xd) ∧ w'.cell? ⟨b2, o2 + i * 3 + 2, none⟩ = some (.string us)) := fun W hW => by
        have := lists_same ub ud xb xd ns W hwi.2 (h4.below hW) (k4.below hW)
        rw [← h3] at this
        exact this.mono fun e w' ⟨p1, p2⟩ => ⟨p1, Rg.chain hW p2, HF.out _ (Rg.chain hW p2)⟩
      obtain ⟨z0, z1, z2, y0, y1, y2⟩ := HF.out wr hbw
      have hz0 : (0 : Int) ≤ (i : Int) := by omega
      have hz1 : (i : Int) < (N : Int) := by omega
      have d0 : (us.toList == us.toList) = true := by simp
      have d1 : (us.toList != us.toList) = false := by simp
      have hbd := hbw.drew
      clear HF elA elB h1 h2 h3 h4 k1 k2 k3 k4 hwi hil hia hib
      go_upto_region 6 with fail
      go_region_held3 (fun w' => w'.cell? ⟨b1, o1 + i * 3, none⟩ = some (.slice ua un uc) ∧ w'.cell? ⟨b1, o1 + i * 3 + 1, none⟩ = some (.slice ub um ud) ∧ w'.cell? ⟨b1, o1 + i * 3 + 2, none⟩ = some (.string us) ∧ w'.cell? ⟨b2, o2 + i * 3, none⟩ = some (.slice xa un xc) ∧ w'.cell? ⟨b2, o2 + i * 3 + 1, none⟩ = some (.slice xb um xd) ∧ w'.cell? ⟨b2, o2 + i * 3 + 2, none⟩ = some (.string us)) (go_keep) (first
        | (go_at_call 24; with_reducible refine (HL1.out _ ?_).mono ?_; (first | exact hbd | exact hbw); rintro e w8 ⟨rfl, bA, p0, p1, p2, p3, p4, p5⟩)
        | (go_at_call 24; with_reducible refine (HL2.out _ ?_).mono ?_; (first | exact bA | exact bA.drew); rintro e w9 ⟨rfl, bB, q0, q1, q2, q3, q4, q5⟩))
      clear z0 z1 z2 y0 y1 y2 p0 p1 p2 p3 p4 p5 q0 q1 q2 q3 q4 q5
      go_wp2
      go_roundw
      case rel => exact ⟨i + 1, by omega, by go_num, (by first | exact bB | exact bB.drew)⟩
      case measure => simp [intOf]; omega
    · obtain rfl : i = N := by omega
      go_wp2
      go_ret
      exact ⟨rfl, hbw⟩
end Go.Proofs.YtpggnhnpphbaeaaDoor
