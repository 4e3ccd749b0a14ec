/-
  Layer 6: names compared; the search among rising files.
-/
import Derived.Test.YtempiajepomajaaDk1
namespace Go.Proofs.Ytempiajepomajaa
open Go.RowKit

set_option maxHeartbeats 1000000 in
set_option maxRecDepth 100000 in
theorem cmpStr_any (a b : ByteArray) (w : World) :
    Calls Try.prog 68 #[.string a, .string b] w fun e w' => e = .returned (.int .i64 (Lib.compareBytes a.data.toList b.data.toList)) ∧ w' = w := by
  go_enter Try.func68, Try.ntmps68
  go_wp2
  rw [run_callFunc_extern Try.func70 (by kernel_rfl) (by kernel_rfl) (by kernel_rfl) (e := Extern.BytealgCompare.compare) (by kernel_rfl), Lib.run_compareString]
  simp only [Result.andThen]
  rw [Oper.upon_value]
  go_wp2
  go_ret
  exact ⟨rfl, rfl⟩

set_option maxHeartbeats 1000000 in
theorem compare_any (a b : ByteArray) (w : World) :
    Calls Try.prog 65 #[.string a, .string b] w fun e w' => e = .returned (.int .i64 (Lib.compareBytes a.data.toList b.data.toList)) ∧ w' = w := by
  have H := Rg.hid (cmpStr_any a b)
  go_enter Try.func65, Try.ntmps65
  go_wp2_with (go_at_call 68; refine (H.out _).mono ?_; rintro e w' ⟨rfl, rfl⟩)
  go_ret
  exact ⟨rfl, rfl⟩

namespace Dsk
/-- how a name stands to another one -/
def cmp (a b : ByteArray) : Int := Lib.compareBytes a.data.toList b.data.toList
theorem cmp_neg (a b : ByteArray) : decide (cmp a b < 0) = lt a b := cmp_lt _ _
theorem cmp_zero (a b : ByteArray) : (cmp a b == 0) = decide (a = b) := by
  have h := cmp_eq a.data.toList b.data.toList
  by_cases e : a = b
  · subst e; have : cmp a a = 0 := h.2 rfl; simp [this]
  · have : ¬ cmp a b = 0 := fun c => e (ba_ext (h.1 c))
    simp [e, this]
/-- is it there? -/
def has (l : List Fl) (n : ByteArray) : Bool := (get l n).isSome
theorem has_pos {l : List Fl} {n : ByteArray} (h : pos l n < l.length) : has l n = decide (l[pos l n].n = n) := by
  unfold has
  rw [get_pos, List.getElem?_eq_getElem h]
  by_cases e : l[pos l n].n = n
  · simp [e]
  · simp [e]
theorem has_end {l : List Fl} {n : ByteArray} (h : ¬ pos l n < l.length) : has l n = false := by
  unfold has
  rw [get_pos, List.getElem?_eq_none (by omega)]; rfl
/-- the search: what lies before u is less, from v on it is not -/
structure Sea (l : List Fl) (n : ByteArray) (u v : Nat) : Prop where
  le : u ≤ v
  ub : v ≤ l.length
  lo : ∀ (k : Nat) (h : k < l.length), k < u → lt l[k].n n = true
  hi : ∀ (k : Nat) (h : k < l.length), v ≤ k → lt l[k].n n = false
theorem Sea.start (l : List Fl) (n : ByteArray) : Sea l n 0 l.length := ⟨Nat.zero_le _, Nat.le_refl _, fun _ _ h => by omega, fun _ _ h => by omega⟩
theorem Sea.up {l : List Fl} {n : ByteArray} {u v h : Nat} (hs : Sea l n u v) (hl : Srt l) (h2 : h < v) (hh : h < l.length) (hx : lt l[h].n n = true) : Sea l n (h + 1) v :=
  ⟨h2, hs.ub, fun k hk h' => by
    rcases Nat.lt_or_ge k h with c | c
    · exact lt_trans (List.pairwise_iff_getElem.1 hl k h hk hh c) hx
    · obtain rfl : k = h := by omega
      exact hx, hs.hi⟩
theorem Sea.down {l : List Fl} {n : ByteArray} {u v h : Nat} (hs : Sea l n u v) (hl : Srt l) (h1 : u ≤ h) (hh : h < l.length) (hx : lt l[h].n n = false) : Sea l n u h :=
  ⟨h1, by omega, hs.lo, fun k hk h' => by
    rcases Nat.lt_or_ge h k with c | c
    · cases e : lt l[k].n n
      · rfl
      · have := lt_trans (List.pairwise_iff_getElem.1 hl h k hh hk c) e; rw [hx] at this; cases this
    · obtain rfl : k = h := by omega
      exact hx⟩
theorem Sea.done {l : List Fl} {n : ByteArray} {u : Nat} (hs : Sea l n u u) : u = pos l n := pos_uniq hs.ub hs.lo (fun h => hs.hi u h (Nat.le_refl _))
end Dsk

set_option maxHeartbeats 1000000 in
theorem byName_any (f d n : ByteArray) (w : World) :
    Calls Try.prog 58 #[.agg #[.string f, .string d], .string n] w fun e w' => e = .returned (.int .i64 (Dsk.cmp f n)) ∧ Below w.heap.size w w' := by
  have H : Hid (∀ w, Calls Try.prog 65 #[.string f, .string n] w fun e w' => e = .returned (.int .i64 (Dsk.cmp f n)) ∧ w' = w) := compare_any f n
  go_enter Try.func58, Try.ntmps58
  go_wp2_with (go_at_call 65; refine (H.out _).mono ?_; rintro e w' ⟨rfl, rfl⟩)
  go_ret
  exact ⟨rfl, Rg.al1 _ _⟩

theorem file_at {W : World} {b o : Nat} {n d : ByteArray} (h : Rg.At W b o (fileE.enc ⟨n, d⟩)) : W.cell? ⟨b, o, none⟩ = some (.string n) ∧ W.cell? ⟨b, o + 1, none⟩ = some (.string d) := ⟨h 0 _ rfl, h 1 _ rfl⟩
theorem op_at {W : World} {b o : Nat} {k : Int} {n t d : ByteArray} (h : Rg.At W b o (opE.enc ⟨k, n, t, d⟩)) : W.cell? ⟨b, o, none⟩ = some (.int .i64 k) ∧ W.cell? ⟨b, o + 1, none⟩ = some (.string n) ∧ W.cell? ⟨b, o + 2, none⟩ = some (.string t) ∧ W.cell? ⟨b, o + 3, none⟩ = some (.string d) := ⟨h 0 _ rfl, h 1 _ rfl, h 2 _ rfl, h 3 _ rfl⟩
theorem ret_ib {a a' : Int} {b b' : Bool} (h : a = a') (h2 : b = b') : Ending.returned (.tuple #[.int .i64 a, .bool b]) = .returned (.tuple #[.int .i64 a', .bool b']) := by rw [h, h2]
/-- what the search says -/
def FindPost (l : List Dsk.Fl) (n : ByteArray) (w : World) (e : Ending) (w' : World) : Prop := e = .returned (.tuple #[.int .i64 (Dsk.pos l n), .bool (Dsk.has l n)]) ∧ Below w.heap.size w w'

set_option maxHeartbeats 4000000 in
set_option maxRecDepth 100000 in
theorem search_row (b o c : Nat) (l : List Dsk.Fl) (n : ByteArray) (w : World) (hs : Dsk.Srt l) (hn : l.length ≤ 1000000000) (hb : b < w.heap.size) (hrow : Rg.At w b o (fileE.flat l)) :
    Calls Try.prog 57 #[.slice (some ⟨b, o, none⟩) l.length c, .string n, .func (.func 58) #[] #[]] w fun e w' => FindPost l n w e w' := by
  have hs' := Rg.hid hs
  have hrow' := Rg.hid hrow
  obtain ⟨N, hN⟩ : ∃ N, N = l.length := ⟨_, rfl⟩
  have hN1 : N ≤ 1000000000 := by omega
  have hst : Hid (Dsk.Sea l n 0 N) := by rw [hN]; exact Dsk.Sea.start l n
  rw [← hN]
  replace hN := Rg.hid hN
  clear hs hn hrow
  go_enter Try.func57, Try.ntmps57
  go_wp2
  go_loopw [9, 10] (fun vi vj wr => ∃ (i j : Nat), i ≤ j ∧ j ≤ N ∧ Hid (Dsk.Sea l n i j) ∧ vi = .int .i64 i ∧ vj = .int .i64 j ∧ Below w.heap.size w wr) (fun vi vj _ => (intOf vj).toNat - (intOf vi).toNat)
  case atStart => exact ⟨0, N, Nat.zero_le _, Nat.le_refl _, hst, rfl, rfl, Below.refl _ _⟩
  case round =>
    obtain ⟨i, j, hij, hjb, hsea, rfl, rfl, hbw⟩ := hrel
    by_cases hlt : i < j
    · obtain ⟨h, hh⟩ : ∃ h : Nat, h = (i + j) / 2 := ⟨_, rfl⟩
      have e1 : ((i : Int) + (j : Int)) / 2 = (h : Int) := by omega
      have hm1 : i ≤ h := by omega
      have hm2 : h < j := by omega
      have hl : h < l.length := by rw [← hN.out]; omega
      have hup : Hid (Dsk.lt l[h].n n = true → Dsk.Sea l n (h + 1) j) := fun hx => hsea.out.up hs'.out hm2 hl hx
      have hdn : Hid (Dsk.lt l[h].n n = false → Dsk.Sea l n i h) := fun hx => hsea.out.down hs'.out hm1 hl hx
      have at1 : Rg.At wr b (o + h * 2) (fileE.enc l[h]) := (hrow'.out.elem hl).below hbw hb
      have hcn := Dsk.cmp_neg l[h].n n
      generalize Dsk.lt l[h].n n = lv at *
      generalize l[h] = x at *
      obtain ⟨xn, xd⟩ := x
      obtain ⟨c0, c1⟩ := file_at at1
      have HC : Hid (∀ W, Below w.heap.size w W → Calls Try.prog 58 #[.agg #[.string xn, .string xd], .string n] W fun e w' => e = .returned (.int .i64 (Dsk.cmp xn n)) ∧ Below w.heap.size w w') := fun W hW => (byName_any xn xd n W).mono fun e w' ⟨h1, h2⟩ => ⟨h1, Rg.chain hW h2⟩
      dsimp only at hcn
      generalize Dsk.cmp xn n = cv at *
      have hz0 : (0 : Int) ≤ (h : Int) := by omega
      have hz1 : (h : Int) < (N : Int) := by omega
      clear hh hl at1
      cases lv
      · go_wp2_with (go_at_call 58; refine (HC.out _ hbw).mono ?_; rintro e w' ⟨rfl, hb'⟩)
        go_roundw
        case rel => exact ⟨i, h, hm1, by omega, hdn.out (by first | rfl | trivial), rfl, rfl, hb'⟩
        case measure => simp [intOf]; omega
      · go_wp2_with (go_at_call 58; refine (HC.out _ hbw).mono ?_; rintro e w' ⟨rfl, hb'⟩)
        go_roundw
        case rel => exact ⟨h + 1, j, hm2, hjb, hup.out (by first | rfl | trivial), by go_num, rfl, hb'⟩
        case measure => simp [intOf]; omega
    · obtain rfl : i = j := by omega
      have hp := Rg.hid hsea.out.done
      by_cases hi : i < N
      · have hl : i < l.length := by rw [← hN.out]; exact hi
        have at1 : Rg.At wr b (o + i * 2) (fileE.enc l[i]) := (hrow'.out.elem hl).below hbw hb
        have hh : Hid (Dsk.has l n = (Dsk.cmp l[i].n n == 0)) := by
          show _ = _
          have hp' := hp.out
          subst hp'
          rw [Dsk.cmp_zero, Dsk.has_pos hl]
        generalize l[i] = x at *
        obtain ⟨xn, xd⟩ := x
        obtain ⟨c0, c1⟩ := file_at at1
        have HC : Hid (∀ W, Below w.heap.size w W → Calls Try.prog 58 #[.agg #[.string xn, .string xd], .string n] W fun e w' => e = .returned (.int .i64 (Dsk.cmp xn n)) ∧ Below w.heap.size w w') := fun W hW => (byName_any xn xd n W).mono fun e w' ⟨h1, h2⟩ => ⟨h1, Rg.chain hW h2⟩
        dsimp only at hh
        have hz0 : (0 : Int) ≤ (i : Int) := by omega
        have hz1 : (i : Int) < (N : Int) := by omega
        have dlt : decide ((i : Int) < (N : Int)) = true := by simp; omega
        have dlt' : decide (i < N) = true := by simp; omega
        clear at1 hl
        go_wp2_with (go_at_call 58; refine (HC.out _ hbw).mono ?_; rintro e w' ⟨rfl, hb'⟩)
        go_ret2
        exact ⟨ret_ib (by rw [← hp.out]) hh.out.symm, hb'⟩
      · have hh : Hid (Dsk.has l n = false) := by
          show _ = _
          exact Dsk.has_end (by rw [← hp.out, ← hN.out]; exact hi)
        have dlt : decide ((i : Int) < (N : Int)) = false := by simp; omega
        have dlt' : decide (i < N) = false := by simp; omega
        go_wp2
        go_ret2
        exact ⟨ret_ib (by rw [← hp.out]) hh.out.symm, hbw⟩

set_option maxHeartbeats 1000000 in
theorem search_none (c : Nat) (n : ByteArray) (w : World) :
    Calls Try.prog 57 #[.slice none 0 c, .string n, .func (.func 58) #[] #[]] w fun e w' => FindPost [] n w e w' := by
  go_enter Try.func57, Try.ntmps57
  go_wp2
  go_loopw [9, 10] (fun vi vj wr => vi = .int .i64 0 ∧ vj = .int .i64 0 ∧ wr = w) (fun _ _ _ => 0)
  case atStart => exact ⟨rfl, rfl, rfl⟩
  case round =>
    obtain ⟨rfl, rfl, rfl⟩ := hrel
    go_wp2
    go_ret2
    exact ⟨rfl, Below.refl _ _⟩

set_option maxHeartbeats 1000000 in
theorem find_any (a : Option Addr) (c : Nat) (l : List Dsk.Fl) (n : ByteArray) (w : World) (hs : Dsk.Srt l) (hn : l.length ≤ 1000000000) (hrow : fileE.Row w a l) :
    Calls Try.prog 40 #[.slice a l.length c, .string n] w fun e w' => FindPost l n w e w' := by
  have H : Hid (Calls Try.prog 57 #[.slice a l.length c, .string n, .func (.func 58) #[] #[]] w fun e w' => FindPost l n w e w') := by
    rcases hrow with ⟨rfl, rfl⟩ | ⟨b, o, rfl, hb, hr⟩
    · exact search_none c n w
    · exact search_row b o c l n w hs hn hb hr
  generalize l.length = N at *
  clear hs hrow
  go_enter Try.func40, Try.ntmps40
  go_wp2_with (go_at_call 57; refine H.out.mono ?_; rintro e w' ⟨rfl, hb⟩)
  go_ret2
  exact ⟨rfl, hb⟩
end Go.Proofs.Ytempiajepomajaa
