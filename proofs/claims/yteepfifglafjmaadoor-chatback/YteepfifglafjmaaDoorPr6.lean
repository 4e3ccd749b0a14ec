/-
  Layer 8: slices.ContainsFunc of texts that no sign says; checkStep.
-/
import Derived.Test.YteepfifglafjmaaDoorPr5
namespace Go.Proofs.YteepfifglafjmaaDoor
open Go.RowKit

theorem Ch.all_take (l : List ByteArray) (i : Nat) (hi : i < l.length) : (l.take (i + 1)).all Ch.saidT = ((l.take i).all Ch.saidT && Ch.saidT l[i]) := by
  rw [List.take_succ_eq_append_getElem hi, List.all_append]
  simp
theorem Ch.all_no (l : List ByteArray) (i : Nat) (hi : i < l.length) (h : Ch.saidT l[i] = false) : l.all Ch.saidT = false := by
  rw [List.all_eq_false]
  exact ⟨l[i], List.getElem_mem hi, by rw [h]; decide⟩
theorem str_cell0 {W : World} {a : Option Addr} {l : List ByteArray} (h : Row0 strE W a l) {i : Nat} (hi : i < l.length) : ∃ b o, a = some ⟨b, o, none⟩ ∧ ∀ W', Below W.heap.size W W' → W'.cell? ⟨b, o + i, none⟩ = some (.string l[i]) := by
  have hr := h.row hi
  obtain ⟨b, o, rfl⟩ := row_place hr hi
  refine ⟨b, o, rfl, fun W' hW => ?_⟩
  have h1 := ((hr.below hW).some.2.elem (E := strE) hi) 0 _ rfl
  rw [show strE.m = 1 from rfl, Nat.mul_one, Nat.add_zero] at h1
  exact h1

theorem egN : ∀ args w, (callFunc 36 args).run Tryd.prog w = .ok (.enter 36 args) w := enters_of Tryd.func36 (by kernel_rfl) rfl
def IxPost (w : World) (t : Bool) (e : Ending) (w' : World) : Prop := ∃ r : Int, e = .returned (.int .i64 r) ∧ decide (0 ≤ r) = t ∧ Below w.heap.size w w'
set_option maxHeartbeats 2000000 in
set_option maxRecDepth 100000 in
theorem idxf_any (a : Option Addr) (c : Nat) (l : List ByteArray) (w : World) (hr : Row0 strE w a l) (hl : l.length ≤ 1000000) :
    Calls Tryd.prog 50 #[.slice a l.length c, .func (.func 36) #[] #[]] w fun e w' => IxPost w (!(l.all Ch.saidT)) e w' := by
  obtain ⟨N, hN⟩ : ∃ N, N = l.length := ⟨_, rfl⟩
  rw [← hN] at hl ⊢
  replace hN := Rg.hid hN
  replace hr := Rg.hid hr
  have HU : Hid (∀ (s : ByteArray) W, Calls Tryd.prog 36 #[.string s] W fun e w' => e = .returned (.bool (!Ch.saidT s)) ∧ Below W.heap.size W w') := fun s W => unsaid_any s W
  have eg := egN
  go_enter Tryd.func50, Tryd.ntmps50
  go_wp2
  go_loopw [8] (fun vi wr => ∃ i : Nat, i ≤ N ∧ vi = .int .i64 i ∧ Hid ((l.take i).all Ch.saidT = true) ∧ Below w.heap.size w wr) (fun vi _ => N - (intOf vi).toNat)
  case atStart => exact ⟨0, Nat.zero_le _, rfl, rfl, Below.refl _ _⟩
  case round =>
    obtain ⟨i, hin, rfl, hall, hbw⟩ := hrel
    by_cases hlt : i < N
    · have hil : i < l.length := by rw [← hN.out]; exact hlt
      obtain ⟨b, o, rfl, hc⟩ := str_cell0 hr.out hil
      have c1 := hc wr hbw
      have HUs := Rg.hid (HU.out l[i] wr)
      have hz0 : (0 : Int) ≤ (i : Int) := by omega
      have hz1 : (i : Int) < (N : Int) := by omega
      have ht := Ch.all_take l i hil
      rw [hall.out, Bool.true_and] at ht
      cases hs : Ch.saidT l[i]
      · have hno := Ch.all_no l i hil hs
        rw [hs] at HUs
        have post : ∀ w', Below wr.heap.size wr w' → Hid (IxPost w (!(l.all Ch.saidT)) (.returned (.int .i64 (i : Int))) w') := fun w' hw' => ⟨i, rfl, by rw [hno]; simp, Rg.chain hbw hw'⟩
        generalize l[i] = x at *
        clear hs hno ht hc HU
        go_wp2_with (go_at_fn 36; refine HUs.out.mono ?_; rintro e w2 ⟨rfl, b2⟩)
        go_ret
        exact (post _ b2).out
      · rw [hs] at HUs ht
        replace ht := Rg.hid ht
        generalize l[i] = x at *
        clear hs hc HU hall
        go_wp2_with (go_at_fn 36; refine HUs.out.mono ?_; rintro e w2 ⟨rfl, b2⟩)
        go_roundw
        case rel => exact ⟨i + 1, by omega, by go_num, ht, Rg.chain hbw b2⟩
        case measure => simp [intOf]; omega
    · have hal : Hid (l.all Ch.saidT = true) := by have := hall.out; rw [List.take_of_length_le (by rw [← hN.out]; omega)] at this; exact this
      clear hall
      go_wp2
      go_ret
      exact ⟨-1, rfl, by rw [hal.out]; rfl, hbw⟩
theorem cfun_any (a : Option Addr) (c : Nat) (l : List ByteArray) (w : World) (hr : Row0 strE w a l) (hl : l.length ≤ 1000000) :
    Calls Tryd.prog 35 #[.slice a l.length c, .func (.func 36) #[] #[]] w fun e w' => e = .returned (.bool (!(l.all Ch.saidT))) ∧ Below w.heap.size w w' := by
  have HI : Hid (Calls Tryd.prog 50 #[.slice a l.length c, .func (.func 36) #[] #[]] w fun e w' => ∃ r : Int, e = .returned (.int .i64 r) ∧ decide (0 ≤ r) = !(l.all Ch.saidT) ∧ Below w.heap.size w w') := idxf_any a c l w hr hl
  generalize (!(l.all Ch.saidT)) = t at *
  generalize l.length = N at *
  clear hr hl
  go_enter Tryd.func35, Tryd.ntmps35
  go_wp2_with (go_at_call 50; refine HI.out.mono ?_; rintro e w2 ⟨r, rfl, ht, b2⟩)
  go_ret
  exact ⟨ret_bool (by simp), b2⟩

set_option maxHeartbeats 4000000 in
set_option maxRecDepth 100000 in
theorem pcheck_any (wa : Option Addr) (wn wc0 : Nat) (na : Option Addr) (nn nc : Nat) (ss : ByteArray) (ws ns : List ByteArray) (w : World) (hwn : wn = ws.length) (hnn : nn = ns.length) (hW : Row0 strE w wa ws) (hN : Row0 strE w na ns) (h6 : ws.length ≤ 1000000) (h7 : ns.length ≤ 1000000) :
    Calls Tryd.prog 20 #[.agg #[.slice wa wn wc0, .slice na nn nc, .string ss]] w fun e w' => e = .returned (.int .i64 (Ch.chkSt ⟨ws, ns, ss⟩ : Nat)) ∧ Below w.heap.size w w' := by
  have bA := Rg.al1 w (.cells #[.slice wa wn wc0, .slice na nn nc, .string ss] 43)
  have kD1 : Rg.Bk w.heap.size [.slice wa wn wc0, .slice na nn nc, .string ss] 43 (w.alloc (.cells #[.slice wa wn wc0, .slice na nn nc, .string ss] 43)) := Rg.Bk.new rfl
  obtain ⟨q, hq⟩ : ∃ q, Ch.chkSt ⟨ws, ns, ss⟩ = q := ⟨_, rfl⟩
  rw [hq]
  unfold Ch.chkSt at hq
  dsimp only at hq
  rw [← hwn, ← hnn] at hq
  by_cases c1 : wn < 1
  · rw [if_pos (.inl c1)] at hq
    subst hq
    have d1 : decide ((wn : Int) < 1) = true := by simp; omega
    clear c1 hwn hnn hW hN h6 h7 kD1
    go_enter Tryd.func20, Tryd.ntmps20
    go_wp2
    go_ret
    exact ⟨rfl, bA⟩
  have d1 : decide ((wn : Int) < 1) = false := by simp; omega
  by_cases c2 : 300 < wn
  · rw [if_pos (.inr (.inl c2))] at hq
    subst hq
    have d2 : decide ((300 : Int) < (wn : Int)) = true := by simp; omega
    clear c1 c2 hwn hnn hW hN h6 h7 kD1
    go_enter Tryd.func20, Tryd.ntmps20
    go_wp2
    go_ret
    exact ⟨rfl, bA⟩
  have d2 : decide ((300 : Int) < (wn : Int)) = false := by simp; omega
  obtain ⟨m, hm⟩ : ∃ m, wn = m + 1 := ⟨wn - 1, by omega⟩
  have y0 : IntKind.i64.wrap ((wn : Int) - 1) = (m : Int) := by rw [IntKind.wrap_i64]; omega
  have y1 : wrap64 ((wn : Int) - 1) = (m : Int) := by unfold wrap64; omega
  by_cases c3 : ¬ nn = m
  · rw [if_pos (.inr (.inr (by omega)))] at hq
    subst hq
    have d3 : ((nn : Int) == (m : Int)) = false := by rw [beq_eq_false_iff_ne]; omega
    have d4 : ((nn : Int) != (m : Int)) = true := by rw [bne_iff_ne]; omega
    have d5 : ¬ (nn : Int) = (m : Int) := by omega
    have d6 : (nn == m) = false := by rw [beq_eq_false_iff_ne]; exact c3
    have d7 : (nn != m) = true := by rw [bne_iff_ne]; exact c3
    clear c1 c2 hwn hnn hW hN h6 h7 kD1 hm
    go_enter Tryd.func20, Tryd.ntmps20
    go_wp2
    go_ret
    exact ⟨rfl, bA⟩
  replace c3 : nn = m := Classical.not_not.1 c3
  rw [if_neg (by rintro (c | c | c); exact c1 c; exact c2 c; omega)] at hq
  have HW0 := cfun_any wa wc0 ws (w.alloc (.cells #[.slice wa wn wc0, .slice na nn nc, .string ss] 43)) (hW.below bA) h6
  have HN0 := fun W (hb : Below w.heap.size w W) => cfun_any na nc ns W (hN.below hb) h7
  have HS0 := fun W => unsaid_any ss W
  rw [← hwn] at HW0
  rw [← hnn] at HN0
  have kD := kD1
  subst c3
  have HW : Hid (Calls Tryd.prog 35 #[.slice wa wn wc0, .func (.func 36) #[] #[]] (w.alloc (.cells #[.slice wa wn wc0, .slice na nn nc, .string ss] 43)) fun e w' => e = .returned (.bool (!(ws.all Ch.saidT))) ∧ Below w.heap.size w w' ∧ Rg.Bk w.heap.size [.slice wa wn wc0, .slice na nn nc, .string ss] 43 w') := HW0.mono fun e w' ⟨h1, h2⟩ => ⟨h1, Rg.chain bA h2, kD.below h2 kD.lt⟩
  have HN : Hid (∀ W, Below w.heap.size w W → Rg.Bk w.heap.size [.slice wa wn wc0, .slice na nn nc, .string ss] 43 W → Calls Tryd.prog 35 #[.slice na nn nc, .func (.func 36) #[] #[]] W fun e w' => e = .returned (.bool (!(ns.all Ch.saidT))) ∧ Below w.heap.size w w' ∧ Rg.Bk w.heap.size [.slice wa wn wc0, .slice na nn nc, .string ss] 43 w') := fun W hb k => (HN0 W hb).mono fun e w' ⟨h1, h2⟩ => ⟨h1, Rg.chain hb h2, k.below h2 k.lt⟩
  have HS : Hid (∀ W, Below w.heap.size w W → Calls Tryd.prog 36 #[.string ss] W fun e w' => e = .returned (.bool (!(Ch.saidT ss))) ∧ Below w.heap.size w w') := fun W hb => (HS0 W).mono fun e w' ⟨h1, h2⟩ => ⟨h1, Rg.chain hb h2⟩
  generalize ws.all Ch.saidT = A1 at *
  generalize ns.all Ch.saidT = A2 at *
  generalize Ch.saidT ss = A3 at *
  clear HW0 HN0 HS0 hwn hnn hW hN h6 h7 c1 c2 kD1 kD hm
  cases A1
  · obtain rfl : 3 = q := by simpa using hq
    go_enter Tryd.func20, Tryd.ntmps20
    go_wp2_with (go_at_call 35; refine HW.out.mono ?_; rintro e w2 ⟨rfl, b2, k2⟩)
    go_ret
    exact ⟨rfl, b2⟩
  cases A2
  · obtain rfl : 3 = q := by simpa using hq
    go_enter Tryd.func20, Tryd.ntmps20
    go_wp2_with (go_at_call 35; (first | (refine (HN.out _ b2 k2).mono ?_; rintro e w3 ⟨rfl, b3, k3⟩) | (refine HW.out.mono ?_; rintro e w2 ⟨rfl, b2, k2⟩; have c21 := k2.cell; have z21 := k2.lt)))
    go_ret
    exact ⟨rfl, b3⟩
  cases A3
  · obtain rfl : 3 = q := by simpa using hq
    go_enter Tryd.func20, Tryd.ntmps20
    go_wp2_with (first
      | (go_at_call 35; (first | (refine (HN.out _ b2 k2).mono ?_; rintro e w3 ⟨rfl, b3, k3⟩; have c31 := k3.cell; have z31 := k3.lt) | (refine HW.out.mono ?_; rintro e w2 ⟨rfl, b2, k2⟩; have c21 := k2.cell; have z21 := k2.lt)))
      | (go_at_call 36; refine (HS.out _ b3).mono ?_; rintro e w4 ⟨rfl, b4⟩))
    go_ret
    exact ⟨rfl, b4⟩
  · obtain rfl : 0 = q := by simpa using hq
    go_enter Tryd.func20, Tryd.ntmps20
    go_wp2_with (first
      | (go_at_call 35; (first | (refine (HN.out _ b2 k2).mono ?_; rintro e w3 ⟨rfl, b3, k3⟩; have c31 := k3.cell; have z31 := k3.lt) | (refine HW.out.mono ?_; rintro e w2 ⟨rfl, b2, k2⟩; have c21 := k2.cell; have z21 := k2.lt)))
      | (go_at_call 36; refine (HS.out _ b3).mono ?_; rintro e w4 ⟨rfl, b4⟩))
    go_ret
    exact ⟨rfl, b4⟩
end Go.Proofs.YteepfifglafjmaaDoor
