/-
  Walks of layer 14: Numbers, the program's and the document's.
-/
import Derived.Test.YtnglfefgcdbgmaaWnC
namespace Go.Proofs.Ytnglfefgcdbgmaa
open Go.RowKit
/-- a number's cell -/
def intE : Rg.El Int := { enc := fun x => [.int .i64 x], m := 1, hm := fun _ => rfl, pos := by decide, one := fun x u hu => by simp at hu; subst hu; rfl, ty := 3 }
theorem infoInt : (Try.prog.info? 3).map (fun i => (i.zero, i.size, i.bytes)) = some (some (.int .i64 0), 1, 8) := by kernel_rfl
theorem infoInt' : ∃ i0, Try.prog.info? 3 = some i0 ∧ i0.zero = some (.int .i64 0) ∧ i0.size = 1 ∧ i0.bytes = 8 := by
  have := infoInt
  cases h : Try.prog.info? 3 with
  | none => rw [h] at this; cases this
  | some i => rw [h] at this; simp only [Option.map_some, Option.some.injEq, Prod.mk.injEq] at this; exact ⟨i, rfl, this.1, this.2.1, this.2.2⟩
theorem made_int (n : Nat) : (madeCells (Value.int .i64 0).cells (n * 1)).toList = intE.flat (List.replicate n 0) := by
  have h1 : (Value.int .i64 0).cells = #[.int .i64 0] := rfl
  rw [h1]
  apply List.ext_getElem
  · rw [intE.flat_length]; simp [madeCells]; show n = n * 1; omega
  · intro i h2 h3
    have hi : i < n := by rw [intE.flat_length] at h3; simp at h3; simpa [intE] using h3
    have e := intE.flat_get (l := List.replicate n 0) (i := i) (t := 0) (by simpa using hi) (by decide) []
    rw [List.append_nil, show i * intE.m + 0 = i by show i * 1 + 0 = i; omega, List.getElem?_eq_getElem h3] at e
    simp only [List.getElem_replicate] at e
    have e2 : (intE.flat (List.replicate n 0))[i] = .int .i64 0 := by
      have : (intE.enc 0)[0]? = some (.int .i64 0) := rfl
      rw [this] at e; exact Option.some.inj e
    rw [e2]
    simp [madeCells, Nat.mod_one]
theorem int_put {base g cap : Nat} {W : World} {l : List Int} {rest : List Value} (h : intE.Own base W g cap l rest) {i : Nat} (hi : i < l.length) (s : Int) : intE.Own base (W.setCell ⟨g, i, none⟩ (.int .i64 s)) g cap (l.set i s) rest := by
  have s0 := h.set1 i (.int .i64 s)
  refine h.re (cs := (intE.flat l ++ rest).set i (.int .i64 s)) s0 ?_ (by simpa using h.le) (by simp)
  have e := intE.flat_set hi (t := 0) (by decide) rest (.int .i64 s)
  rw [show i * intE.m + 0 = i by show i * 1 + 0 = i; omega] at e
  rw [e, intE.flat_put hi]
  rfl
theorem int_at {W : World} {b o : Nat} {l : List Int} (h : Rg.At W b o (intE.flat l)) {i : Nat} (hi : i < l.length) : W.cell? ⟨b, o + i, none⟩ = some (.int .i64 l[i]) := by
  have e := (h.elem hi) 0 (.int .i64 l[i]) rfl
  rw [show intE.m = 1 from rfl, Nat.mul_one, Nat.add_zero] at e
  exact e
/-- nothing, or a row of numbers that is read -/
def NRow (W : World) (a : Option Addr) (l : List Int) : Prop := l = [] ∨ ∃ b o, a = some ⟨b, o, none⟩ ∧ b < W.heap.size ∧ Rg.At W b o (intE.flat l)
theorem NRow.below {W W' : World} {a : Option Addr} {l : List Int} (h : NRow W a l) (hb : Below W.heap.size W W') : NRow W' a l := by
  rcases h with h | ⟨b, o, h1, h2, h3⟩
  · exact .inl h
  · exact .inr ⟨b, o, h1, Nat.lt_of_lt_of_le h2 hb.size, h3.below hb h2⟩
theorem NRow.of {W : World} {a : Option Addr} {l : List Int} (h : intE.Row W a l) : NRow W a l := by
  rcases h with ⟨_, h⟩ | h
  · exact .inl h
  · exact .inr h
theorem NRow.cell {W : World} {a : Option Addr} {l : List Int} (h : NRow W a l) {i : Nat} (hi : i < l.length) : ∃ b o, a = some ⟨b, o, none⟩ ∧ b < W.heap.size ∧ W.cell? ⟨b, o + i, none⟩ = some (.int .i64 l[i]) := by
  rcases h with rfl | ⟨b, o, rfl, hb, hat⟩
  · simp at hi
  · exact ⟨b, o, rfl, hb, int_at hat hi⟩
/-- What Numbers answers. -/
def NPost (w : World) (l : List Int) (e : Ending) (w' : World) : Prop := ∃ a c, e = .returned (.slice a l.length c) ∧ Hid (NRow w' a l) ∧ Below w.heap.size w w'
theorem Wn.nums_step (L : List Int) (i n : Nat) (hn : L.length = n) (hi : i < n) : (L.take i ++ List.replicate (n - i) 0).set i (L[i]'(by omega)) = L.take (i + 1) ++ List.replicate (n - (i + 1)) 0 := by
  have e1 : (L.take i).length = i := by rw [List.length_take]; omega
  rw [List.set_append_right _ _ (by omega), e1, Nat.sub_self, show n - i = (n - (i + 1)) + 1 by omega, List.replicate_succ, List.set_cons_zero]
  rw [List.take_succ_eq_append_getElem (by omega : i < L.length), List.append_assoc]
  rfl
set_option maxHeartbeats 4000000 in
set_option maxRecDepth 100000 in
theorem nums_wrong (m s b : Int) (a : Option Addr) (n c : Nat) (w : World) (HR : RightsAt 27 m s b a n c false) :
    Calls Try.prog 21 #[.agg #[.int .i64 m, .int .i64 s, .int .i64 b, .slice a n c]] w fun e w' => NPost w [] e w' := by
  have kB1 : Hid (Rg.Bk w.heap.size [.int .i64 m, .int .i64 s, .int .i64 b, .slice a n c] 24 (w.alloc (.cells #[.int .i64 m, .int .i64 s, .int .i64 b, .slice a n c] 24))) := Rg.Bk.new rfl
  have hb1 := Rg.hid (Rg.al1 w (.cells #[.int .i64 m, .int .i64 s, .int .i64 b, .slice a n c] 24))
  go_enter Try.func21, Try.ntmps21
  go_upto_region 1 with fail
  generalize World.alloc _ _ = w1 at *
  obtain ⟨B, hB⟩ : ∃ B, B = w.heap.size := ⟨_, rfl⟩
  rw [← hB] at kB1 ⊢
  have hBw : w.heap.size ≤ B := by omega
  clear hB
  have z0 : w1.cell? ⟨B, 0, none⟩ = some (.int .i64 m) := kB1.out.cell 0
  have z1 : w1.cell? ⟨B, 1, none⟩ = some (.int .i64 s) := kB1.out.cell 1
  have z2 : w1.cell? ⟨B, 2, none⟩ = some (.int .i64 b) := kB1.out.cell 2
  have z3 : w1.cell? ⟨B, 3, none⟩ = some (.slice a n c) := kB1.out.cell 3
  go_upto_region 2 with (go_at_call 27; refine (HR _).mono ?_; rintro e w2 ⟨rfl, b2⟩)
  have kB2 := kB1.out.below b2 kB1.out.lt
  have hb2 := Rg.chain hb1.out b2
  clear z0 z1 z2 z3 kB1 hb1 b2
  go_wp2
  go_ret
  exact ⟨none, 0, rfl, .inl rfl, hb2⟩
set_option maxHeartbeats 4000000 in
set_option maxRecDepth 100000 in
theorem rnums_wrong (m s b : Int) (a : Option Addr) (n c : Nat) (w : World) (HR : RightsAt 31 m s b a n c false) :
    Calls Try.prog 22 #[.agg #[.int .i64 m, .int .i64 s, .int .i64 b, .slice a n c]] w fun e w' => NPost w [] e w' := by
  have kB1 : Hid (Rg.Bk w.heap.size [.int .i64 m, .int .i64 s, .int .i64 b, .slice a n c] 24 (w.alloc (.cells #[.int .i64 m, .int .i64 s, .int .i64 b, .slice a n c] 24))) := Rg.Bk.new rfl
  have hb1 := Rg.hid (Rg.al1 w (.cells #[.int .i64 m, .int .i64 s, .int .i64 b, .slice a n c] 24))
  go_enter Try.func22, Try.ntmps22
  go_upto_region 1 with fail
  generalize World.alloc _ _ = w1 at *
  obtain ⟨B, hB⟩ : ∃ B, B = w.heap.size := ⟨_, rfl⟩
  rw [← hB] at kB1 ⊢
  have hBw : w.heap.size ≤ B := by omega
  clear hB
  have z0 : w1.cell? ⟨B, 0, none⟩ = some (.int .i64 m) := kB1.out.cell 0
  have z1 : w1.cell? ⟨B, 1, none⟩ = some (.int .i64 s) := kB1.out.cell 1
  have z2 : w1.cell? ⟨B, 2, none⟩ = some (.int .i64 b) := kB1.out.cell 2
  have z3 : w1.cell? ⟨B, 3, none⟩ = some (.slice a n c) := kB1.out.cell 3
  go_upto_region 2 with (go_at_call 31; refine (HR _).mono ?_; rintro e w2 ⟨rfl, b2⟩)
  have kB2 := kB1.out.below b2 kB1.out.lt
  have hb2 := Rg.chain hb1.out b2
  clear z0 z1 z2 z3 kB1 hb1 b2
  go_wp2
  go_ret
  exact ⟨none, 0, rfl, .inl rfl, hb2⟩
set_option maxHeartbeats 4000000 in
set_option maxRecDepth 100000 in
theorem nums_right (m s b : Int) (a : Option Addr) (n c : Nat) (hn : n ≤ 1000) (L : List Int) (hL : Hid (L.length = n)) (w : World) (HR : RightsAt 27 m s b a n c true)
    (HN : Hid (∀ (i : Nat) (h : i < L.length) W, Calls Try.prog 28 #[.agg #[.int .i64 m, .int .i64 s, .int .i64 b, .slice a n c], .int .i64 (i : Int)] W fun e w' => e = .returned (.int .i64 L[i]) ∧ Below W.heap.size W w')) :
    Calls Try.prog 21 #[.agg #[.int .i64 m, .int .i64 s, .int .i64 b, .slice a n c]] w fun e w' => ∃ a c, e = .returned (.slice a n c) ∧ Hid (NRow w' a L) ∧ Below w.heap.size w w' := by
  obtain ⟨i0, hi, hz0, hz1, hz2⟩ := infoInt'
  have kB1 : Hid (Rg.Bk w.heap.size [.int .i64 m, .int .i64 s, .int .i64 b, .slice a n c] 24 (w.alloc (.cells #[.int .i64 m, .int .i64 s, .int .i64 b, .slice a n c] 24))) := Rg.Bk.new rfl
  have hb1 := Rg.hid (Rg.al1 w (.cells #[.int .i64 m, .int .i64 s, .int .i64 b, .slice a n c] 24))
  go_enter Try.func21, Try.ntmps21
  go_upto_region 1 with fail
  generalize World.alloc _ _ = w1 at *
  obtain ⟨B, hB⟩ : ∃ B, B = w.heap.size := ⟨_, rfl⟩
  rw [← hB] at kB1 ⊢
  have hBw : w.heap.size ≤ B := by omega
  clear hB
  have z0 : w1.cell? ⟨B, 0, none⟩ = some (.int .i64 m) := kB1.out.cell 0
  have z1 : w1.cell? ⟨B, 1, none⟩ = some (.int .i64 s) := kB1.out.cell 1
  have z2 : w1.cell? ⟨B, 2, none⟩ = some (.int .i64 b) := kB1.out.cell 2
  have z3 : w1.cell? ⟨B, 3, none⟩ = some (.slice a n c) := kB1.out.cell 3
  go_upto_region 3 with (go_at_call 27; refine (HR _).mono ?_; rintro e w2 ⟨rfl, b2⟩)
  have kB2 := kB1.out.below b2 kB1.out.lt
  have hb2 := Rg.chain hb1.out b2
  clear z0 z1 z2 z3 kB1 hb1 b2
  obtain ⟨w3, hrun, hown, hgr⟩ := run_make_full (P := Try.prog) w2 w2.heap.size 39 3 i0 _ 1 Try.underlying39 hi hz0 hz1 .i64 .i64 n (by rw [hz2]; omega) (by unfold maxLen; omega) (Nat.le_refl _)
  rw [made_int] at hown
  obtain ⟨g, cap', rest, hv, ho⟩ := Rg.El.Own.of (E := intE) hown (fun h => by cases h) (by simp)
  simp only [List.length_replicate, Value.slice.injEq, Option.some.injEq, Addr.mk.injEq] at hv
  obtain ⟨⟨hg, _, _⟩, _, hc'⟩ := hv
  subst hg
  subst hc'
  have hb23 : Below w2.heap.size w2 w3 := (Below.refl _ _).grown hgr (Nat.le_refl _) (fun k hk => by cases hk)
  have ho' := Rg.hid (show intE.Own w2.heap.size w3 w2.heap.size n (L.take 0 ++ List.replicate (n - 0) 0) rest from ho)
  have z3 : w2.cell? ⟨B, 3, none⟩ = some (.slice a n c) := kB2.cell 3
  have kB3 := Rg.hid kB2
  have hb2' := Rg.hid hb2
  have hBlt : B < w2.heap.size := kB2.lt
  clear hown hgr hi hz0 hz1 hz2 ho HR kB2 hb2
  go_wp2
  clear hrun z3
  obtain ⟨G, hG⟩ : ∃ G, G = w2.heap.size := ⟨_, rfl⟩
  rw [← hG] at ho' ⊢
  have hGB : B ≠ G := by omega
  have hGw : w.heap.size ≤ G := by have := hb2'.out.size; omega
  replace hG := Rg.hid hG
  go_loopw [14] (fun vi wr => ∃ i : Nat, i ≤ n ∧ vi = .int .i64 i ∧ Hid (intE.Own G wr G n (L.take i ++ List.replicate (n - i) 0) rest) ∧ Hid (Below w2.heap.size w2 wr)) (fun vi _ => n - (intOf vi).toNat)
  case atStart => exact ⟨0, Nat.zero_le _, rfl, ho', hb23⟩
  case round =>
    obtain ⟨i, hin, rfl, hown, hbw⟩ := hrel
    by_cases hlt : i < n
    · have hil : i < L.length := by rw [hL.out]; exact hlt
      have kBr := kB3.out.below hbw.out hBlt
      have z0 : wr.cell? ⟨B, 0, none⟩ = some (.int .i64 m) := kBr.cell 0
      have z1 : wr.cell? ⟨B, 1, none⟩ = some (.int .i64 s) := kBr.cell 1
      have z2 : wr.cell? ⟨B, 2, none⟩ = some (.int .i64 b) := kBr.cell 2
      have z3 : wr.cell? ⟨B, 3, none⟩ = some (.slice a n c) := kBr.cell 3
      obtain ⟨N, hN⟩ : ∃ N, N = L[i] := ⟨_, rfl⟩
      have HN2 : Hid (Calls Try.prog 28 #[.agg #[.int .i64 m, .int .i64 s, .int .i64 b, .slice a n c], .int .i64 (i : Int)] wr fun e w' => e = .returned (.int .i64 N) ∧ (∃ v, w'.cell? ⟨G, i, none⟩ = some (.int .i64 v)) ∧ (∀ j, w'.frozen? ⟨G, j, none⟩ = false) ∧ Hid (intE.Own G (w'.setCell ⟨G, i, none⟩ (.int .i64 N)) G n (L.take (i + 1) ++ List.replicate (n - (i + 1)) 0) rest) ∧ Hid (Below w2.heap.size w2 (w'.setCell ⟨G, i, none⟩ (.int .i64 N)))) := by
        refine (HN.out i hil wr).mono fun e w' ⟨h1, h2⟩ => ?_
        have o2 := hown.out.below h2
        have hLl : i < (L.take i ++ List.replicate (n - i) 0).length := by have := hL.out; simp; omega
        have q0 := int_at (o2.row) hLl
        rw [Nat.zero_add] at q0
        have q1 := int_put o2 hLl N
        rw [hN, Wn.nums_step L i n hL.out hlt] at q1
        refine ⟨by rw [h1, hN], ⟨_, q0⟩, o2.thaw, by rw [hN]; exact q1, ?_⟩
        exact (hbw.out.trans (h2.mono hbw.out.size)).trans ((Rg.Only.setCell w' G i _).bel (Nat.le_of_eq hG.out.symm))
      have hz0 : (0 : Int) ≤ (i : Int) := by omega
      have hz1 : (i : Int) < (n : Int) := by omega
      clear hN hil kBr hown HN hL
      go_upto_region 8 with (go_at_call 28; refine HN2.out.mono ?_; rintro e w4 ⟨rfl, ⟨v, y0⟩, yf, ho4, hb4⟩)
      generalize World.setCell _ _ _ = w5 at *
      go_wp2
      go_roundw
      case rel => exact ⟨i + 1, by omega, by go_num, ho4, hb4⟩
      case measure => simp [intOf]; omega
    · obtain rfl : i = n := by omega
      have hE := hown.out
      rw [Nat.sub_self, List.replicate_zero, List.append_nil, List.take_of_length_le (by rw [hL.out]; exact Nat.le_refl _)] at hE
      replace hE := Rg.hid hE.toRow
      go_wp2
      go_ret
      exact ⟨some ⟨G, 0, none⟩, i, rfl, NRow.of hE.out, Rg.chain hb2'.out hbw.out⟩
end Go.Proofs.Ytnglfefgcdbgmaa
