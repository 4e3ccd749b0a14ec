/-
  Walks of the laws of layer 10: long, awake.
-/
import Derived.Test.YtgnjjbpfgokndaaDoorCmdF
namespace Go.Proofs.YtgnjjbpfgokndaaDoor
open Go.RowKit

/-- a word's cells from o on -/
def CAt (W : World) (b o : Nat) (x : Cmd.Cw) : Prop :=
  W.cell? ⟨b, o, none⟩ = some (.int .i64 x.v) ∧ W.cell? ⟨b, o + 1, none⟩ = some (.int .i64 x.j.g) ∧ W.cell? ⟨b, o + 2, none⟩ = some (.int .i64 x.j.n) ∧ W.cell? ⟨b, o + 3, none⟩ = some (.int .i64 x.j.k) ∧ W.cell? ⟨b, o + 4, none⟩ = some (.string x.j.u) ∧ W.cell? ⟨b, o + 5, none⟩ = some (.string x.j.f) ∧ W.cell? ⟨b, o + 6, none⟩ = some (.string x.j.t) ∧ W.cell? ⟨b, o + 7, none⟩ = some (.string x.j.c) ∧ W.cell? ⟨b, o + 8, none⟩ = some (.int .i64 x.j.z) ∧ W.cell? ⟨b, o + 9, none⟩ = some (.int .i64 x.a)
theorem CAt.below {b o B : Nat} {x : Cmd.Cw} {W W' : World} (h : CAt W b o x) (hb : Below B W W') (hB : b < B) : CAt W' b o x := by
  have e (o : Nat) : W'.cell? ⟨b, o, none⟩ = W.cell? ⟨b, o, none⟩ := hb.cell (p := ⟨b, o, none⟩) hB
  unfold CAt at *
  simp only [e]
  exact h
def LongC (w : World) (e : Ending) (w' : World) : Prop := ∃ L : Bool, e = .returned (.bool L) ∧ Below w.heap.size w w'

set_option maxHeartbeats 2000000 in
set_option maxRecDepth 100000 in
theorem clong_any (b o c : Nat) (l : List Cmd.Cw) (w : World) (hn : l.length ≤ 100) (hb : b < w.heap.size) (hc : ∀ (i : Nat) (h : i < l.length), CAt w b (o + i * 10) l[i]) :
    Calls Tryd.prog 8 #[.slice (some ⟨b, o, none⟩) l.length c] w fun e w' => LongC w e w' := by
  have hc' : Hid (∀ (i : Nat) (h : i < l.length), CAt w b (o + i * 10) l[i]) := hc
  clear hc
  go_enter Tryd.func8, Tryd.ntmps8
  go_wp2
  go_loopw [7] (fun i wr => ∃ k : Nat, k ≤ l.length ∧ i = .int .i64 k ∧ Below w.heap.size w wr) (fun i _ => l.length - (intOf i).toNat)
  case atStart => exact ⟨0, Nat.zero_le _, rfl, Below.refl _ _⟩
  case round =>
    obtain ⟨k, hk, rfl, hbl⟩ := hrel
    by_cases hlt : k < l.length
    · obtain ⟨c0, c1, c2, c3, c4, c5, c6, c7, c8, c9⟩ := (hc'.out k hlt).below hbl hb
      generalize l[k] = j at *
      obtain ⟨jv, ⟨jg, jn, jk, ju, jf, jt, jc, jz⟩, ja⟩ := j
      dsimp only at c0 c1 c2 c3 c4 c5 c6 c7 c8 c9
      have bn := hbl.alloc hbl.size (.cells #[.int .i64 jv, .int .i64 jg, .int .i64 jn, .int .i64 jk, .string ju, .string jf, .string jt, .string jc, .int .i64 jz, .int .i64 ja] 27)
      by_cases h0 : (3000 : Int) < (ju.size : Int)
      · have d0 : decide ((3000 : Int) < (ju.size : Int)) = true := decide_eq_true h0
        have e0 : decide (3000 < ju.size) = true := decide_eq_true (by omega)
        clear h0
        go_wp2
        go_ret
        exact ⟨true, rfl, bn⟩
      have d0 : decide ((3000 : Int) < (ju.size : Int)) = false := decide_eq_false h0
      have e0 : decide (3000 < ju.size) = false := decide_eq_false (by omega)
      clear h0
      by_cases h1 : (3000 : Int) < (jf.size : Int)
      · have d1 : decide ((3000 : Int) < (jf.size : Int)) = true := decide_eq_true h1
        have e1 : decide (3000 < jf.size) = true := decide_eq_true (by omega)
        clear h1
        go_wp2
        go_ret
        exact ⟨true, rfl, bn⟩
      have d1 : decide ((3000 : Int) < (jf.size : Int)) = false := decide_eq_false h1
      have e1 : decide (3000 < jf.size) = false := decide_eq_false (by omega)
      clear h1
      by_cases h2 : (3000 : Int) < (jt.size : Int)
      · have d2 : decide ((3000 : Int) < (jt.size : Int)) = true := decide_eq_true h2
        have e2 : decide (3000 < jt.size) = true := decide_eq_true (by omega)
        clear h2
        go_wp2
        go_ret
        exact ⟨true, rfl, bn⟩
      have d2 : decide ((3000 : Int) < (jt.size : Int)) = false := decide_eq_false h2
      have e2 : decide (3000 < jt.size) = false := decide_eq_false (by omega)
      clear h2
      by_cases h3 : (3000 : Int) < (jc.size : Int)
      · have d3 : decide ((3000 : Int) < (jc.size : Int)) = true := decide_eq_true h3
        have e3 : decide (3000 < jc.size) = true := decide_eq_true (by omega)
        clear h3
        go_wp2
        go_ret
        exact ⟨true, rfl, bn⟩
      have d3 : decide ((3000 : Int) < (jc.size : Int)) = false := decide_eq_false h3
      have e3 : decide (3000 < jc.size) = false := decide_eq_false (by omega)
      clear h3
      go_wp2
      go_roundw
      case rel => exact ⟨k + 1, by omega, by go_num, bn⟩
      case measure => simp [intOf]; omega
    · obtain rfl : k = l.length := by omega
      go_wp2
      go_ret
      exact ⟨_, rfl, hbl⟩

/-- 'long' at one word, and at two, laid for the call -/
theorem clong_one (v g n k : Int) (u f t c : ByteArray) (z a : Int) (w : World) (m : Nat) (hm : w.heap.size = m) :
    Calls Tryd.prog 8 #[.slice (some ⟨m, 0, none⟩) 1 1] (w.alloc (.cells #[.int .i64 v, .int .i64 g, .int .i64 n, .int .i64 k, .string u, .string f, .string t, .string c, .int .i64 z, .int .i64 a] 27)) fun e w' => LongC w e w' := by
  subst hm
  refine (clong_any w.heap.size 0 1 [⟨v, ⟨g, n, k, u, f, t, c, z⟩, a⟩] (w.alloc (.cells #[.int .i64 v, .int .i64 g, .int .i64 n, .int .i64 k, .string u, .string f, .string t, .string c, .int .i64 z, .int .i64 a] 27)) (by simp) (by simp) (fun i hi => ?_)).mono ?_
  · obtain rfl : i = 0 := by simp at hi; omega
    simp [CAt]
  · rintro e w' ⟨L, rfl, b⟩
    exact ⟨L, rfl, (below_alloc1 w _).trans (b.mono (below_alloc1 w _).size)⟩
theorem clong_two (v g n k : Int) (u f t c : ByteArray) (z a : Int) (v' g' n' k' : Int) (u' f' t' c' : ByteArray) (z' a' : Int) (w : World) (m : Nat) (hm : w.heap.size = m) :
    Calls Tryd.prog 8 #[.slice (some ⟨m, 0, none⟩) 2 2] (w.alloc (.cells #[.int .i64 v, .int .i64 g, .int .i64 n, .int .i64 k, .string u, .string f, .string t, .string c, .int .i64 z, .int .i64 a, .int .i64 v', .int .i64 g', .int .i64 n', .int .i64 k', .string u', .string f', .string t', .string c', .int .i64 z', .int .i64 a'] 27)) fun e w' => LongC w e w' := by
  subst hm
  refine (clong_any w.heap.size 0 2 [⟨v, ⟨g, n, k, u, f, t, c, z⟩, a⟩, ⟨v', ⟨g', n', k', u', f', t', c', z'⟩, a'⟩] (w.alloc (.cells #[.int .i64 v, .int .i64 g, .int .i64 n, .int .i64 k, .string u, .string f, .string t, .string c, .int .i64 z, .int .i64 a, .int .i64 v', .int .i64 g', .int .i64 n', .int .i64 k', .string u', .string f', .string t', .string c', .int .i64 z', .int .i64 a'] 27)) (by simp) (by simp) (fun i hi => ?_)).mono ?_
  · obtain rfl | rfl : i = 0 ∨ i = 1 := by simp at hi; omega
    · simp [CAt]
    · simp [CAt]
  · rintro e w' ⟨L, rfl, b⟩
    exact ⟨L, rfl, (below_alloc1 w _).trans (b.mono (below_alloc1 w _).size)⟩

namespace Cmd
theorem itoa_digC (n : Nat) (h : n < 10) : Lib.itoa (n : Int) = [UInt8.ofNat (48 + n)] := by
  have e : Lib.itoa (n : Int) = Lib.decDigits n := by unfold Lib.itoa; rw [if_neg (by omega)]; simp
  rw [e, Oct.dec_small h]
theorem itoa12 : Lib.itoa 12 = [49, 50] := by
  have e : Lib.itoa ((12 : Nat) : Int) = Lib.decDigits 12 := by unfold Lib.itoa; rw [if_neg (by omega)]; simp
  have e2 := digits_step 12 (by omega) []
  have e3 : Lib.decDigits 1 = [49] := Oct.dec_small (by omega)
  have e4 : (12 : Nat) / 10 = 1 := rfl
  rw [List.append_nil, e4, e3] at e2
  exact e.trans e2
def one : Cw := ⟨1, ⟨110, 7, 1, ⟨#[97, 110, 110]⟩, ⟨#[47, 97]⟩, ⟨#[47, 98]⟩, ⟨#[]⟩, 5⟩, 0⟩
def oneT : Bs := [83, 32, 110, 55, 32, 97, 110, 110, 32, 47, 97, 32, 47, 98, 32, 53]
theorem one_chk : Job.chk one.j = 0 := by decide
theorem one_txt : Job.txt one.j = oneT := by
  have h7 : Lib.itoa 7 = [55] := itoa_digC 7 (by omega)
  have h5 : Lib.itoa 5 = [53] := itoa_digC 5 (by omega)
  unfold Job.txt Job.ws one Nam.idT
  dsimp only
  rw [h7, h5]
  rfl
theorem one_parse : parse oneT = (one, 0) := parse_yes (says_is (by rw [← one_txt]; exact .send _ one_chk (.inl rfl)))
theorem twelve : text ⟨4, Job.zero, 12⟩ = ([89, 32, 49, 50], 0) := by
  have h : says (89 :: 32 :: Lib.itoa ((12 : Nat) : Int)) ⟨4, Job.zero, ((12 : Nat) : Int)⟩ := says_is (.yes 12 (by omega))
  unfold says at h
  rw [show ((12 : Nat) : Int) = 12 from rfl, itoa12] at h
  exact h
end Cmd

set_option maxHeartbeats 2000000 in
set_option maxRecDepth 100000 in
theorem cawake_any (w : World) (hw : Ok w) : Calls Tryd.prog 9 #[] w fun e w' => e = .returned (.bool true) ∧ Below w.heap.size w w' := by
  have HT : Hid (Calls Tryd.prog 10 #[.agg #[.int .i64 4, .int .i64 0, .int .i64 0, .int .i64 0, .string ⟨#[]⟩, .string ⟨#[]⟩, .string ⟨#[]⟩, .string ⟨#[]⟩, .int .i64 0, .int .i64 12]] w fun e w' => e = .returned (.tuple #[.string ⟨#[89, 32, 49, 50]⟩, .int .i64 0]) ∧ Below w.heap.size w w') := by
    have h := ctext_any 4 0 0 0 ⟨#[]⟩ ⟨#[]⟩ ⟨#[]⟩ ⟨#[]⟩ 0 12 w hw (by decide) (by decide) (by decide) (by decide)
    have e := Cmd.twelve
    unfold Job.zero at e
    rw [e] at h
    exact h
  have HP : Hid (∀ W, Below w.heap.size w W → Calls Tryd.prog 12 #[.string ⟨#[83, 32, 110, 55, 32, 97, 110, 110, 32, 47, 97, 32, 47, 98, 32, 53]⟩] W fun e w' => e = .returned (.tuple #[.agg #[.int .i64 1, .int .i64 110, .int .i64 7, .int .i64 1, .string ⟨#[97, 110, 110]⟩, .string ⟨#[47, 97]⟩, .string ⟨#[47, 98]⟩, .string ⟨#[]⟩, .int .i64 5, .int .i64 0], .int .i64 0]) ∧ Below w.heap.size w w') := fun W hW => by
    have h := cparse_any ⟨#[83, 32, 110, 55, 32, 97, 110, 110, 32, 47, 97, 32, 47, 98, 32, 53]⟩ W (hw.below hW) (by decide)
    rw [show (⟨#[83, 32, 110, 55, 32, 97, 110, 110, 32, 47, 97, 32, 47, 98, 32, 53]⟩ : ByteArray).data.toList = Cmd.oneT from rfl, Cmd.one_parse] at h
    exact h.mono fun e w' ⟨h1, h2⟩ => ⟨h1, hW.trans (h2.mono hW.size)⟩
  clear hw
  go_enter Tryd.func9, Tryd.ntmps9
  go_wp2_with (first
    | (go_at_call 10; refine HT.out.mono ?_; rintro e w1 ⟨rfl, b1⟩)
    | (go_at_call 12; refine (HP.out _ (by assumption)).mono ?_; rintro e w1 ⟨rfl, b1⟩))
  go_ret
  exact ⟨rfl, by first | assumption | exact Below.alloc (by assumption) (Below.size (by assumption)) _⟩
end Go.Proofs.YtgnjjbpfgokndaaDoor
