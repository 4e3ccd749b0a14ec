/-
  Layer 6: lists held against one another; Same; List.
-/
import Derived.Test.YtempiajepomajaaDk14
namespace Go.Proofs.Ytempiajepomajaa
open Go.RowKit

theorem tl_inj (a b : ByteArray) : a.toList = b.toList ↔ a = b := ⟨fun h => Dsk.ba_ext (by rw [← tl_eq, ← tl_eq]; exact h), fun h => by rw [h]⟩
theorem neq_file (n d n' d' : ByteArray) (w : World) : (binOp .neq 53 (.agg #[.string n, .string d]) (.agg #[.string n', .string d'])).run Try.prog w = .ok (.bool (!decide ((⟨n, d⟩ : Dsk.Fl) = ⟨n', d'⟩))) w := by
  simp [go_sem]
  simp only [tl_inj]
  by_cases h0 : n = n'
  · subst h0
    rw [if_pos rfl]
    by_cases h1 : d = d'
    · subst h1; simp
    · simp [h1]
  · rw [if_neg h0]; simp [h0]
theorem neq_op (k : Int) (n t d : ByteArray) (k' : Int) (n' t' d' : ByteArray) (w : World) : (binOp .neq 56 (.agg #[.int .i64 k, .string n, .string t, .string d]) (.agg #[.int .i64 k', .string n', .string t', .string d'])).run Try.prog w = .ok (.bool (!decide ((⟨k, n, t, d⟩ : Dsk.Dop) = ⟨k', n', t', d'⟩))) w := by
  simp [go_sem]
  simp only [tl_inj]
  by_cases h0 : k = k'
  · subst h0
    rw [if_pos rfl]
    by_cases h1 : n = n'
    · subst h1
      rw [if_pos rfl]
      by_cases h2 : t = t'
      · subst h2
        rw [if_pos rfl]
        by_cases h3 : d = d'
        · subst h3; simp
        · simp [h3]
      · rw [if_neg h2]; simp [h2]
    · rw [if_neg h1]; simp [h1]
  · rw [if_neg h0]; simp [h0]
theorem take_eq_step {α : Type} {x y : List α} {i : Nat} (h : x.take i = y.take i) (hx : i < x.length) (hy : i < y.length) (e : x[i] = y[i]) : x.take (i + 1) = y.take (i + 1) := by
  rw [List.take_succ_eq_append_getElem hx, List.take_succ_eq_append_getElem hy, h, e]
theorem take_ne {α : Type} {x y : List α} {i : Nat} (hx : i < x.length) (hy : i < y.length) (e : ¬ x[i] = y[i]) : ¬ x = y := fun h => by subst h; exact e rfl

set_option maxHeartbeats 2000000 in
set_option maxRecDepth 100000 in
theorem eqFiles_any (a : Option Addr) (ca : Nat) (b : Option Addr) (cb : Nat) (x y : List Dsk.Fl) (w : World) (hx : x.length ≤ 1000000000) (hrx : fileE.Row w a x) (hry : fileE.Row w b y) :
    Calls Try.prog 42 #[.slice a x.length ca, .slice b y.length cb] w fun e w' => VPost (.bool (decide (x = y))) w e w' := by
  by_cases hlen : x.length = y.length
  · obtain ⟨N, hN⟩ : ∃ N, N = x.length := ⟨_, rfl⟩
    have hNy : N = y.length := by rw [hN]; exact hlen
    rw [← hN, ← hNy]
    have hN1 : N ≤ 1000000000 := by rw [hN]; exact hx
    replace hN := Rg.hid hN
    replace hNy := Rg.hid hNy
    replace hrx := Rg.hid hrx
    replace hry := Rg.hid hry
    have hyes : Hid (∀ w', x = y → Below w.heap.size w w' → VPost (.bool (decide (x = y))) w (.returned (.bool true)) w') := fun w' h h' => ⟨by rw [decide_eq_true h], h'⟩
    have hno : Hid (∀ w', ¬ x = y → Below w.heap.size w w' → VPost (.bool (decide (x = y))) w (.returned (.bool false)) w') := fun w' h h' => ⟨by rw [decide_eq_false h], h'⟩
    generalize decide (x = y) = B at *
    clear hx hlen
    go_enter Try.func42, Try.ntmps42
    go_wp2
    go_loopw [13] (fun vi wr => ∃ i : Nat, i ≤ N ∧ vi = .int .i64 i ∧ Hid (x.take i = y.take i) ∧ Below w.heap.size w wr) (fun vi _ => N - (intOf vi).toNat)
    case atStart => exact ⟨0, Nat.zero_le _, rfl, rfl, Below.refl _ _⟩
    case round =>
      obtain ⟨i, hin, rfl, htk, hbw⟩ := hrel
      by_cases hlt : i < N
      · have hix : i < x.length := by rw [← hN.out]; exact hlt
        have hiy : i < y.length := by rw [← hNy.out]; exact hlt
        obtain ⟨p, o, rfl, hp, hpat⟩ : ∃ p o, a = some ⟨p, o, none⟩ ∧ p < w.heap.size ∧ Rg.At w p o (fileE.flat x) := by
          rcases hrx.out with ⟨_, h⟩ | h
          · rw [h] at hix; simp at hix
          · exact h
        obtain ⟨q, r, rfl, hq, hqat⟩ : ∃ q r, b = some ⟨q, r, none⟩ ∧ q < w.heap.size ∧ Rg.At w q r (fileE.flat y) := by
          rcases hry.out with ⟨_, h⟩ | h
          · rw [h] at hiy; simp at hiy
          · exact h
        have at1 : Rg.At wr p (o + i * 2) (fileE.enc x[i]) := (hpat.elem hix).below hbw hp
        have at2 : Rg.At wr q (r + i * 2) (fileE.enc y[i]) := (hqat.elem hiy).below hbw hq
        have hstep : Hid (x[i] = y[i] → x.take (i + 1) = y.take (i + 1)) := fun e => take_eq_step htk.out hix hiy e
        have hdiff : Hid (¬ x[i] = y[i] → ¬ x = y) := fun e => take_ne hix hiy e
        generalize x[i] = xe at *
        generalize y[i] = ye at *
        obtain ⟨xn, xd⟩ := xe
        obtain ⟨yn, yd⟩ := ye
        obtain ⟨a0, a1⟩ := file_at at1
        obtain ⟨b0, b1⟩ := file_at at2
        have hz0 : (0 : Int) ≤ (i : Int) := by omega
        have hz1 : (i : Int) < (N : Int) := by omega
        have EQ : ∀ W, (binOp .neq 53 (.agg #[.string xn, .string xd]) (.agg #[.string yn, .string yd])).run Try.prog W = .ok (.bool (!decide ((⟨xn, xd⟩ : Dsk.Fl) = ⟨yn, yd⟩))) W := fun W => neq_file xn xd yn yd W
        clear at1 at2 hpat hqat hix hiy hrx hry
        by_cases heq : (⟨xn, xd⟩ : Dsk.Fl) = ⟨yn, yd⟩
        · have hst := Rg.hid (hstep.out heq)
          rw [decide_eq_true heq] at EQ
          replace heq := Rg.hid heq
          clear heq hstep hdiff hyes hno
          go_wp2
          go_big_region
          go_wp2
          go_roundw
          case rel => exact ⟨i + 1, by omega, by go_num, hst, hbw.drew⟩
          case measure => simp [intOf]; omega
        · have hd := Rg.hid (hdiff.out heq)
          rw [decide_eq_false heq] at EQ
          clear heq hstep hdiff hyes
          go_wp2
          go_big_region
          go_wp2
          go_ret
          exact hno.out _ hd.out hbw.drew
      · obtain rfl : i = N := by omega
        have he : Hid (x = y) := by
          have := htk.out
          rw [List.take_of_length_le (by rw [← hN.out]; exact Nat.le_refl _), List.take_of_length_le (by rw [← hNy.out]; exact Nat.le_refl _)] at this
          exact this
        go_wp2
        go_ret
        exact hyes.out _ he.out hbw
  · have hne : ¬ x = y := fun e => hlen (by rw [e])
    rw [decide_eq_false hne]
    have d1 : ((x.length : Int) != (y.length : Int)) = true := by simp; omega
    have d1' : ((x.length : Int) == (y.length : Int)) = false := by simp; omega
    have d1'' : (x.length == y.length) = false := by simp [hlen]
    generalize x.length = N at *
    generalize y.length = M at *
    clear hne hrx hry
    go_enter Try.func42, Try.ntmps42
    go_wp2
    go_ret
    exact ⟨rfl, Below.refl _ _⟩

set_option maxHeartbeats 2000000 in
set_option maxRecDepth 100000 in
theorem eqOps_any (a : Option Addr) (ca : Nat) (b : Option Addr) (cb : Nat) (x y : List Dsk.Dop) (w : World) (hx : x.length ≤ 1000000000) (hrx : opE.Row w a x) (hry : opE.Row w b y) :
    Calls Try.prog 43 #[.slice a x.length ca, .slice b y.length cb] w fun e w' => VPost (.bool (decide (x = y))) w e w' := by
  by_cases hlen : x.length = y.length
  · obtain ⟨N, hN⟩ : ∃ N, N = x.length := ⟨_, rfl⟩
    have hNy : N = y.length := by rw [hN]; exact hlen
    rw [← hN, ← hNy]
    have hN1 : N ≤ 1000000000 := by rw [hN]; exact hx
    replace hN := Rg.hid hN
    replace hNy := Rg.hid hNy
    replace hrx := Rg.hid hrx
    replace hry := Rg.hid hry
    have hyes : Hid (∀ w', x = y → Below w.heap.size w w' → VPost (.bool (decide (x = y))) w (.returned (.bool true)) w') := fun w' h h' => ⟨by rw [decide_eq_true h], h'⟩
    have hno : Hid (∀ w', ¬ x = y → Below w.heap.size w w' → VPost (.bool (decide (x = y))) w (.returned (.bool false)) w') := fun w' h h' => ⟨by rw [decide_eq_false h], h'⟩
    generalize decide (x = y) = B at *
    clear hx hlen
    go_enter Try.func43, Try.ntmps43
    go_wp2
    go_loopw [13] (fun vi wr => ∃ i : Nat, i ≤ N ∧ vi = .int .i64 i ∧ Hid (x.take i = y.take i) ∧ Below w.heap.size w wr) (fun vi _ => N - (intOf vi).toNat)
    case atStart => exact ⟨0, Nat.zero_le _, rfl, rfl, Below.refl _ _⟩
    case round =>
      obtain ⟨i, hin, rfl, htk, hbw⟩ := hrel
      by_cases hlt : i < N
      · have hix : i < x.length := by rw [← hN.out]; exact hlt
        have hiy : i < y.length := by rw [← hNy.out]; exact hlt
        obtain ⟨p, o, rfl, hp, hpat⟩ : ∃ p o, a = some ⟨p, o, none⟩ ∧ p < w.heap.size ∧ Rg.At w p o (opE.flat x) := by
          rcases hrx.out with ⟨_, h⟩ | h
          · rw [h] at hix; simp at hix
          · exact h
        obtain ⟨q, r, rfl, hq, hqat⟩ : ∃ q r, b = some ⟨q, r, none⟩ ∧ q < w.heap.size ∧ Rg.At w q r (opE.flat y) := by
          rcases hry.out with ⟨_, h⟩ | h
          · rw [h] at hiy; simp at hiy
          · exact h
        have at1 : Rg.At wr p (o + i * 4) (opE.enc x[i]) := (hpat.elem hix).below hbw hp
        have at2 : Rg.At wr q (r + i * 4) (opE.enc y[i]) := (hqat.elem hiy).below hbw hq
        have hstep : Hid (x[i] = y[i] → x.take (i + 1) = y.take (i + 1)) := fun e => take_eq_step htk.out hix hiy e
        have hdiff : Hid (¬ x[i] = y[i] → ¬ x = y) := fun e => take_ne hix hiy e
        generalize x[i] = xe at *
        generalize y[i] = ye at *
        obtain ⟨xk, xn, xt, xd⟩ := xe
        obtain ⟨yk, yn, yt, yd⟩ := ye
        obtain ⟨a0, a1, a2, a3⟩ := op_at at1
        obtain ⟨b0, b1, b2, b3⟩ := op_at at2
        have hz0 : (0 : Int) ≤ (i : Int) := by omega
        have hz1 : (i : Int) < (N : Int) := by omega
        have EQ : ∀ W, (binOp .neq 56 (.agg #[.int .i64 xk, .string xn, .string xt, .string xd]) (.agg #[.int .i64 yk, .string yn, .string yt, .string yd])).run Try.prog W = .ok (.bool (!decide ((⟨xk, xn, xt, xd⟩ : Dsk.Dop) = ⟨yk, yn, yt, yd⟩))) W := fun W => neq_op xk xn xt xd yk yn yt yd W
        clear at1 at2 hpat hqat hix hiy hrx hry
        by_cases heq : (⟨xk, xn, xt, xd⟩ : Dsk.Dop) = ⟨yk, yn, yt, yd⟩
        · have hst := Rg.hid (hstep.out heq)
          rw [decide_eq_true heq] at EQ
          replace heq := Rg.hid heq
          clear heq hstep hdiff hyes hno
          go_wp2
          go_big_region
          go_wp2
          go_roundw
          case rel => exact ⟨i + 1, by omega, by go_num, hst, hbw.drew⟩
          case measure => simp [intOf]; omega
        · have hd := Rg.hid (hdiff.out heq)
          rw [decide_eq_false heq] at EQ
          clear heq hstep hdiff hyes
          go_wp2
          go_big_region
          go_wp2
          go_ret
          exact hno.out _ hd.out hbw.drew
      · obtain rfl : i = N := by omega
        have he : Hid (x = y) := by
          have := htk.out
          rw [List.take_of_length_le (by rw [← hN.out]; exact Nat.le_refl _), List.take_of_length_le (by rw [← hNy.out]; exact Nat.le_refl _)] at this
          exact this
        go_wp2
        go_ret
        exact hyes.out _ he.out hbw
  · have hne : ¬ x = y := fun e => hlen (by rw [e])
    rw [decide_eq_false hne]
    have d1 : ((x.length : Int) != (y.length : Int)) = true := by simp; omega
    have d1' : ((x.length : Int) == (y.length : Int)) = false := by simp; omega
    have d1'' : (x.length == y.length) = false := by simp [hlen]
    generalize x.length = N at *
    generalize y.length = M at *
    clear hne hrx hry
    go_enter Try.func43, Try.ntmps43
    go_wp2
    go_ret
    exact ⟨rfl, Below.refl _ _⟩

set_option maxHeartbeats 2000000 in
set_option maxRecDepth 100000 in
theorem same_any (a : Option Addr) (ca : Nat) (b : Option Addr) (cb : Nat) (x y : List Dsk.Fl) (w : World) (hx : x.length ≤ 1000000000) (hrx : fileE.Row w a x) (hry : fileE.Row w b y) :
    Calls Try.prog 18 #[.slice a x.length ca, .slice b y.length cb] w fun e w' => VPost (.bool (decide (x = y))) w e w' := by
  by_cases hlen : x.length = y.length
  · obtain ⟨N, hN⟩ : ∃ N, N = x.length := ⟨_, rfl⟩
    have hNy : N = y.length := by rw [hN]; exact hlen
    rw [← hN, ← hNy]
    have hN1 : N ≤ 1000000000 := by rw [hN]; exact hx
    replace hN := Rg.hid hN
    replace hNy := Rg.hid hNy
    replace hrx := Rg.hid hrx
    replace hry := Rg.hid hry
    have hyes : Hid (∀ w', x = y → Below w.heap.size w w' → VPost (.bool (decide (x = y))) w (.returned (.bool true)) w') := fun w' h h' => ⟨by rw [decide_eq_true h], h'⟩
    have hno : Hid (∀ w', ¬ x = y → Below w.heap.size w w' → VPost (.bool (decide (x = y))) w (.returned (.bool false)) w') := fun w' h h' => ⟨by rw [decide_eq_false h], h'⟩
    generalize decide (x = y) = B at *
    clear hx hlen
    go_enter Try.func18, Try.ntmps18
    go_wp2
    go_loopw [13] (fun vi wr => ∃ i : Nat, i ≤ N ∧ vi = .int .i64 i ∧ Hid (x.take i = y.take i) ∧ Below w.heap.size w wr) (fun vi _ => N - (intOf vi).toNat)
    case atStart => exact ⟨0, Nat.zero_le _, rfl, rfl, Below.refl _ _⟩
    case round =>
      obtain ⟨i, hin, rfl, htk, hbw⟩ := hrel
      by_cases hlt : i < N
      · have hix : i < x.length := by rw [← hN.out]; exact hlt
        have hiy : i < y.length := by rw [← hNy.out]; exact hlt
        obtain ⟨p, o, rfl, hp, hpat⟩ : ∃ p o, a = some ⟨p, o, none⟩ ∧ p < w.heap.size ∧ Rg.At w p o (fileE.flat x) := by
          rcases hrx.out with ⟨_, h⟩ | h
          · rw [h] at hix; simp at hix
          · exact h
        obtain ⟨q, r, rfl, hq, hqat⟩ : ∃ q r, b = some ⟨q, r, none⟩ ∧ q < w.heap.size ∧ Rg.At w q r (fileE.flat y) := by
          rcases hry.out with ⟨_, h⟩ | h
          · rw [h] at hiy; simp at hiy
          · exact h
        have at1 : Rg.At wr p (o + i * 2) (fileE.enc x[i]) := (hpat.elem hix).below hbw hp
        have at2 : Rg.At wr q (r + i * 2) (fileE.enc y[i]) := (hqat.elem hiy).below hbw hq
        have hstep : Hid (x[i] = y[i] → x.take (i + 1) = y.take (i + 1)) := fun e => take_eq_step htk.out hix hiy e
        have hdiff : Hid (¬ x[i] = y[i] → ¬ x = y) := fun e => take_ne hix hiy e
        generalize x[i] = xe at *
        generalize y[i] = ye at *
        obtain ⟨xn, xd⟩ := xe
        obtain ⟨yn, yd⟩ := ye
        obtain ⟨a0, a1⟩ := file_at at1
        obtain ⟨b0, b1⟩ := file_at at2
        have hz0 : (0 : Int) ≤ (i : Int) := by omega
        have hz1 : (i : Int) < (N : Int) := by omega
        have EQ : ∀ W, (binOp .neq 53 (.agg #[.string xn, .string xd]) (.agg #[.string yn, .string yd])).run Try.prog W = .ok (.bool (!decide ((⟨xn, xd⟩ : Dsk.Fl) = ⟨yn, yd⟩))) W := fun W => neq_file xn xd yn yd W
        clear at1 at2 hpat hqat hix hiy hrx hry
        by_cases heq : (⟨xn, xd⟩ : Dsk.Fl) = ⟨yn, yd⟩
        · have hst := Rg.hid (hstep.out heq)
          rw [decide_eq_true heq] at EQ
          replace heq := Rg.hid heq
          clear heq hstep hdiff hyes hno
          go_wp2
          go_big_region
          go_wp2
          go_roundw
          case rel => exact ⟨i + 1, by omega, by go_num, hst, hbw.drew⟩
          case measure => simp [intOf]; omega
        · have hd := Rg.hid (hdiff.out heq)
          rw [decide_eq_false heq] at EQ
          clear heq hstep hdiff hyes
          go_wp2
          go_big_region
          go_wp2
          go_ret
          exact hno.out _ hd.out hbw.drew
      · obtain rfl : i = N := by omega
        have he : Hid (x = y) := by
          have := htk.out
          rw [List.take_of_length_le (by rw [← hN.out]; exact Nat.le_refl _), List.take_of_length_le (by rw [← hNy.out]; exact Nat.le_refl _)] at this
          exact this
        go_wp2
        go_ret
        exact hyes.out _ he.out hbw
  · have hne : ¬ x = y := fun e => hlen (by rw [e])
    rw [decide_eq_false hne]
    have d1 : ((x.length : Int) != (y.length : Int)) = true := by simp; omega
    have d1' : ((x.length : Int) == (y.length : Int)) = false := by simp; omega
    have d1'' : (x.length == y.length) = false := by simp [hlen]
    generalize x.length = N at *
    generalize y.length = M at *
    clear hne hrx hry
    go_enter Try.func18, Try.ntmps18
    go_wp2
    go_ret
    exact ⟨rfl, Below.refl _ _⟩
end Go.Proofs.Ytempiajepomajaa
