/-
  Walks of layer 14: rows of texts of one's own; slices.Clone, slices.Grow, slices.Concat of texts.
-/
import Derived.Test.YtnglfefgcdbgmaaWn3
import Derived.Test.YtnglfefgcdbgmaaRowJ
import Derived.Test.YtnglfefgcdbgmaaShelf
import Derived.Shelf.Spec.SlicesGrow
import Derived.Deep.RegionHeld3
import Derived.Deep.DeepCutAuto
namespace Go.Proofs.Ytnglfefgcdbgmaa
open Go.RowKit
theorem infoStr : (Try.prog.info? 9).map (fun i => (i.zero, i.size, i.bytes)) = some (some (.string ByteArray.empty), 1, 16) := by kernel_rfl
theorem infoStr' : ∃ i0, Try.prog.info? 9 = some i0 ∧ i0.zero = some (.string ByteArray.empty) ∧ i0.size = 1 ∧ i0.bytes = 16 := by
  have := infoStr
  cases h : Try.prog.info? 9 with
  | none => rw [h] at this; cases this
  | some i => rw [h] at this; simp only [Option.map_some, Option.some.injEq, Prod.mk.injEq] at this; exact ⟨i, rfl, this.1, this.2.1, this.2.2⟩
theorem app_nil {P : Program} {t e ty : TypeId} {i : TypeInfo} (ht : P.underlying t = some (.slice e)) (hi : P.info? e = some i) (g n cap : Nat) (hle : n ≤ cap) (a : Option Addr) (c : Nat) (W : World) :
    (Builtin.append_ #[t, t] ty #[.slice (some ⟨g, 0, none⟩) n cap, .slice a 0 c]).run P W = .ok (.slice (some ⟨g, 0, none⟩) n cap) W := by
  cases a <;> simp [Builtin.append_, run_underlying ht, sizeOf, typeInfo, hi, Builtin.lenOf, Builtin.firstCells, storeCells, loadCells, loadCellsFrom, hle]
theorem own_nil (W : World) : strE.Own W.heap.size (W.alloc (.cells #[] 9)) W.heap.size 0 [] [] := ⟨Rg.Bk.new (C := []) rfl, Nat.le_refl _, Nat.le_refl _, Nat.zero_le _, by simp⟩
/-- append of texts to a row of one's own -/
theorem app_texts {base g cap : Nat} {W : World} {l : List ByteArray} {rest : List Value} (h : strE.Own base W g cap l rest) (l2 : List ByteArray) (a : Option Addr) (c : Nat) (hr : SRow W a l2) (hB : base ≤ W.heap.size) (hn : l.length + l2.length ≤ 1000000) :
    ∃ g' cap' rest' W', (Builtin.append_ #[22, 22] 22 #[.slice (some ⟨g, 0, none⟩) l.length cap, .slice a l2.length c]).run Try.prog W = .ok (.slice (some ⟨g', 0, none⟩) (l.length + l2.length) cap') W' ∧ strE.Own base W' g' cap' (l ++ l2) rest' ∧ Below base W W' ∧ (∀ k, k < W.heap.size → k ≠ g → W'.heap[k]? = W.heap[k]?) := by
  obtain ⟨i0, hi, hz0, hz1, hz2⟩ := infoStr'
  rcases hr with rfl | ⟨b, o, rfl, hb, hat⟩
  · exact ⟨g, cap, rest, W, app_nil Try.underlying22 hi g l.length cap h.le a c W, by rw [List.append_nil]; exact h, Below.refl _ _, fun _ _ _ => rfl⟩
  · obtain ⟨g', cap', rest', W', h1, h2, h3, h4, _⟩ := h.appendRow (P := Try.prog) l2 22 22 i0 _ 16 Try.underlying22 hi hz0 hz1 hz2 rfl (some ⟨b, o, none⟩) c (.inr ⟨b, o, rfl, hb, hat⟩) hB (by omega) (by unfold maxLen; omega)
    exact ⟨g', cap', rest', W', h1, h2, h3, h4⟩
/-- an address of a block that w has not -/
def New (w : World) (a : Option Addr) : Prop := ∀ b o, a = some ⟨b, o, none⟩ → w.heap.size ≤ b
theorem New.nil {w : World} : New w none := fun _ _ h => by cases h
theorem New.blk {w : World} {g o : Nat} (h : w.heap.size ≤ g) : New w (some ⟨g, o, none⟩) := fun _ _ e => by cases e; exact h
theorem New.mono {w w' : World} {a : Option Addr} (h : New w' a) (hs : w.heap.size ≤ w'.heap.size) : New w a := fun b o e => Nat.le_trans hs (h b o e)
/-- slices.Clone of texts -/
theorem clone_any (a : Option Addr) (c : Nat) (l : List ByteArray) (w : World) (hl : l.length ≤ 1000000) (hr : SRow w a l) :
    Calls Try.prog 33 #[.slice a l.length c] w fun e w' => ∃ a' c', e = .returned (.slice a' l.length c') ∧ SRow w' a' l ∧ l.length ≤ c' ∧ Below w.heap.size w w' ∧ New w a' := by
  cases l with
  | nil =>
    cases a with
    | none => exact (Try.slices_Clone_string_nil 0 c w).mono fun e w' ⟨h1, h2⟩ => ⟨none, 0, h1, .inl rfl, Nat.le_refl _, by rw [h2]; exact Below.refl _ _, .nil⟩
    | some ad =>
      refine (Try.slices_Clone_string_zero ad c w).mono fun e w' ⟨v', h1, h2, h3, h4⟩ => ?_
      obtain ⟨g, cap, rest, e2, h5⟩ := Rg.El.Own.of (E := strE) (l := []) h2 h3 rfl
      exact ⟨some ⟨g, 0, none⟩, cap, by rw [h1, e2], .inl rfl, h5.le, h4, .blk h5.new⟩
  | cons x l =>
    obtain ⟨b, o, rfl, hb, hat, _⟩ := hr.cell (i := 0) (by simp)
    refine (Try.slices_Clone_string b o (x :: l).length c (x :: l) w (Nat.le_refl _) (by omega) (fun j hj => by
      rw [str_at hat hj, List.getD_eq_getElem?_getD, List.getElem?_eq_getElem hj]; rfl)).mono fun e w' ⟨v', h1, h2, h3, h4⟩ => ?_
    rw [List.take_length, ← str_flat] at h2
    obtain ⟨g, cap, rest, e2, h5⟩ := Rg.El.Own.of (E := strE) h2 h3 rfl
    exact ⟨some ⟨g, 0, none⟩, cap, by rw [h1, e2], SRow.of h5.toRow, h5.le, h4, .blk h5.new⟩
def gr_ren : Go.Shelf.Ren := ⟨fun | 4 => 34 | n => n, fun | 22 => 22 | 25 => 9 | 3 => 3 | 4 => 4 | 0 => 0 | 9 => 9 | 20 => 20 | n => n, fun | n => n⟩
theorem grLays : Go.Proofs.Lays8.n4 Try.prog gr_ren := {
  mixed := by kernel_rfl
  f4 := ⟨Try.f34.name, by decide, Try.func34.trans (congrArg some (by kernel_rfl))⟩
  t0 := Try.underlying0
  a0 := Try.isAgg0
  z0 := Try.sizeOf0
  v0 := Try.zeroValue0
  t3 := Try.underlying3
  a3 := Try.isAgg3
  z3 := Try.sizeOf3
  v3 := Try.zeroValue3
  t4 := Try.underlying4
  a4 := Try.isAgg4
  z4 := Try.sizeOf4
  v4 := Try.zeroValue4
  t9 := Try.underlying9
  a9 := Try.isAgg9
  z9 := Try.sizeOf9
  v9 := Try.zeroValue9
  t20 := Try.underlying20
  a20 := Try.isAgg20
  z20 := Try.sizeOf20
  v20 := Try.zeroValue20
  t22 := Try.underlying22
  a22 := Try.isAgg22
  z22 := Try.sizeOf22
  v22 := Try.zeroValue22 }
/-- slices.Grow of nothing -/
theorem grow_any (n : Nat) (hn : 1 ≤ n) (hn2 : n ≤ 100000) (w : World) :
    Calls Try.prog 34 #[.slice none 0 0, .int .i64 (n : Int)] w fun e w' => ∃ g cap rest, e = .returned (.slice (some ⟨g, 0, none⟩) 0 cap) ∧ strE.Own w.heap.size w' g cap [] rest ∧ Below w.heap.size w w' := by
  obtain ⟨i0, hi, hz0, hz1, hz2⟩ := infoStr'
  refine (Go.Proofs.Any8.slices_Grow_grow grLays i0 _ hi hz0 (by omega) none 0 0 n [] w (Nat.le_refl _) (by omega) (by rw [hz2]; omega) (by omega) (by simp) (fun _ => rfl) (fun a h => by cases h)).mono fun e w' ⟨h1, h2⟩ => ?_
  subst h1 h2
  have hge := grownCap_ge w (0 + n) 0 9
  have hcm : grownCap w (0 + n) 0 9 ≤ maxLen := grownCap_le_maxLen w (0 + n) 0 9 (by unfold maxLen; omega)
  have et : gr_ren.t 25 = 9 := rfl
  rw [et]
  generalize grownCap w (0 + n) 0 9 = G at *
  refine ⟨w.heap.size, G, (Builtin.zeroCells (Value.string ByteArray.empty).cells (0 + n - 0) ++ Builtin.zeroCells (Value.string ByteArray.empty).cells (G - (0 + n))).toList, rfl, ⟨?_, Nat.le_refl _, Nat.zero_le _, hcm, ?_⟩, ⟨rfl, rfl, rfl, by simp, fun k hk => Below.heap_alloc w.drew _ k hk⟩⟩
  · rw [show w.heap.size = w.drew.heap.size from rfl, heap_alloc_new]
    refine congrArg (fun x => some (Obj.cells x _ (0, 0))) ?_
    apply Array.ext'
    simp [strE, Rg.El.flat]
  · have hzl : ∀ n, (Builtin.zeroCells (Value.string ByteArray.empty).cells n).size = n * 1 := fun n => by rw [size_zeroCells]; rfl
    rw [strE.flat_nil, List.nil_append, Array.length_toList, Array.size_append, hzl, hzl]
    show G * 1 ≤ _
    omega
/-- what a concatenation has summed up, and has gathered, behind i of the two rows -/
def Wn.cs (n i : Nat) : Nat := if i = 0 then 0 else if i = 1 then n else n + 1
def Wn.cl (l : List ByteArray) (x : ByteArray) (i : Nat) : List ByteArray := if i = 0 then [] else if i = 1 then l else l ++ [x]
theorem Wn.cl_len (l : List ByteArray) (x : ByteArray) (i : Nat) : (Wn.cl l x i).length = Wn.cs l.length i := by
  unfold Wn.cl Wn.cs
  split
  · rfl
  · split <;> simp
/-- one append of a concatenation -/
theorem cat_step {base g cap i : Nat} {W : World} {l l2 : List ByteArray} {x : ByteArray} {rest : List Value} (h : strE.Own base W g cap (Wn.cl l x i) rest) (n M M2 : Nat) (hn : n = l.length) (hM : M = Wn.cs n i) (a : Option Addr) (c : Nat) (hr : SRow W a l2) (hM2 : M2 = l2.length) (h2 : Wn.cl l x i ++ l2 = Wn.cl l x (i + 1)) (hB : base ≤ W.heap.size) (hn2 : n ≤ 1000) (w : World) (hbw : Below base w W) :
    ∃ g' cap' rest' W', (Builtin.append_ #[22, 22] 22 #[.slice (some ⟨g, 0, none⟩) M cap, .slice a M2 c]).run Try.prog W = .ok (.slice (some ⟨g', 0, none⟩) (Wn.cs n (i + 1)) cap') W' ∧ Hid (strE.Own base W' g' cap' (Wn.cl l x (i + 1)) rest') ∧ Below base w W' := by
  subst hn hM hM2
  have e := congrArg List.length h2
  rw [List.length_append, Wn.cl_len, Wn.cl_len] at e
  have hcs : ∀ j, Wn.cs l.length j ≤ l.length + 1 := fun j => by unfold Wn.cs; split <;> (try split) <;> omega
  have := hcs (i + 1)
  obtain ⟨g', cap', rest', W', h1, h3, h4, _⟩ := app_texts h l2 a c hr hB (by rw [Wn.cl_len]; omega)
  rw [Wn.cl_len, e] at h1
  rw [h2] at h3
  exact ⟨g', cap', rest', W', h1, h3, hbw.trans h4⟩
set_option maxHeartbeats 2000000 in
set_option maxRecDepth 100000 in
theorem concat_any (l : List ByteArray) (n N1 : Nat) (hnl : Hid (n = l.length)) (hN1 : Hid (N1 = n + 1)) (hn : n ≤ 1000) (x : ByteArray) (a : Option Addr) (c B g : Nat) (w : World) (hr : Hid (SRow w a l)) (kB : Rg.Bk B [.slice a n c, .slice (some ⟨g, 0, none⟩) 1 1] 22 w) (kg : Hid (Rg.Bk g [.string x] 9 w)) :
    Calls Try.prog 29 #[.slice (some ⟨B, 0, none⟩) 2 2] w fun e w' => ∃ g' cap, e = .returned (.slice (some ⟨g', 0, none⟩) N1 cap) ∧ Hid (SRow w' (some ⟨g', 0, none⟩) (l ++ [x])) ∧ Hid (N1 ≤ cap) ∧ Below w.heap.size w w' ∧ Hid (w.heap.size ≤ g') := by
  have c0 : w.cell? ⟨B, 0, none⟩ = some (.slice a n c) := kB.cell 0
  have c1 : w.cell? ⟨B, 1, none⟩ = some (.slice (some ⟨g, 0, none⟩) 1 1) := kB.cell 1
  have kB' := Rg.hid kB
  have HG : Hid (∀ W, Calls Try.prog 34 #[.slice none 0 0, .int .i64 (N1 : Int)] W fun e w' => ∃ g cap rest, e = .returned (.slice (some ⟨g, 0, none⟩) 0 cap) ∧ Hid (strE.Own W.heap.size w' g cap [] rest) ∧ Below W.heap.size W w') := by
    rw [hN1.out]; exact grow_any (n + 1) (by omega) (by omega)
  have q0 : wrap64 ((n : Int) + 1) = (N1 : Int) := by rw [hN1.out]; unfold wrap64; omega
  have q1 : wrap64 (n : Int) = (n : Int) := by unfold wrap64; omega
  have d0 : decide ((n : Int) < 0) = false := by simp
  have d1 : decide ((N1 : Int) < 0) = false := by simp
  have e0 : Wn.cs n 0 = 0 := rfl
  have e1 : Wn.cs n 1 = n := rfl
  have e2 : Wn.cs n 2 = N1 := hN1.out.symm
  replace e0 := Rg.hid e0; replace e1 := Rg.hid e1; replace e2 := Rg.hid e2
  have hn' := Rg.hid hn
  clear kB hn
  go_enter Try.func29, Try.ntmps29
  go_wp2
  go_loopw [3, 11] (fun vs vi wr => wr = w ∧ ∃ i : Nat, i ≤ 2 ∧ vi = .int .i64 i ∧ vs = .int .i64 (Wn.cs n i : Nat)) (fun _ vi _ => 2 - (intOf vi).toNat)
  case atStart => exact ⟨rfl, 0, by omega, rfl, rfl⟩
  case round =>
    obtain ⟨hww, i, hi2, rfl, rfl⟩ := hrel
    obtain rfl := hww.symm
    obtain rfl | rfl | rfl : i = 0 ∨ i = 1 ∨ i = 2 := by omega
    · rw [e0.out]
      go_wp2
      go_roundw
      case rel => exact ⟨trivial, 1, by omega, rfl, by simp [e1.out, q1]⟩
      case measure => simp [intOf]
    · rw [e1.out]
      go_wp2
      go_roundw
      case rel => exact ⟨trivial, 2, by omega, rfl, by simp [e2.out, q0]⟩
      case measure => simp [intOf]
    · rw [e2.out]
      go_wp2_with (go_at_call 34; refine (HG.out _).mono ?_; rintro e w2 ⟨G, cap, rest, rfl, hO, b2⟩)
      go_loopw [6, 27] (fun vl vi wx => ∃ (i g' cap' : Nat) (rest' : List Value), i ≤ 2 ∧ vi = .int .i64 i ∧ vl = .slice (some ⟨g', 0, none⟩) (Wn.cs n i) cap' ∧ Hid (strE.Own w.heap.size wx g' cap' (Wn.cl l x i) rest') ∧ Below w.heap.size w wx) (fun _ vi _ => 2 - (intOf vi).toNat)
      case atStart => exact ⟨0, G, cap, rest, by omega, rfl, by rw [e0.out], hO, b2⟩
      case round =>
        obtain ⟨i, g', cap', rest', hi2, rfl, rfl, hO2, bx⟩ := hrel
        have hr' := hr.out.below bx
        have kg' := kg.out.below bx kg.out.lt
        have kB2 := kB'.out.below bx kB'.out.lt
        have c0' : wr.cell? ⟨B, 0, none⟩ = some (.slice a n c) := kB2.cell 0
        have c1' : wr.cell? ⟨B, 1, none⟩ = some (.slice (some ⟨g, 0, none⟩) 1 1) := kB2.cell 1
        clear kB2
        obtain rfl | rfl | rfl : i = 0 ∨ i = 1 ∨ i = 2 := by omega
        · obtain ⟨g2, cap2, rest2, W2, hap, hO3, b3⟩ := cat_step hO2.out n 0 n hnl.out e0.out.symm a c hr' hnl.out rfl bx.size hn'.out w bx
          replace hap := Rg.hid hap
          rw [e0.out]
          clear hr' kg'
          go_wp2_with (at_builtin; refine Rg.wpList_append_run rfl (.tmp 31) (.tmp 32) 22 rfl _ _ rfl rfl _ _ hap.out ?_)
          go_roundw
          case rel => exact ⟨1, g2, cap2, rest2, by omega, rfl, rfl, hO3, b3⟩
          case measure => simp [intOf]
        · have h1 : SRow wr (some ⟨g, 0, none⟩) [x] := .inr ⟨g, 0, rfl, kg'.lt, fun t u ht => by rw [Nat.zero_add, kg'.cell]; exact ht⟩
          obtain ⟨g2, cap2, rest2, W2, hap, hO3, b3⟩ := cat_step hO2.out n n 1 hnl.out e1.out.symm (some ⟨g, 0, none⟩) 1 h1 rfl rfl bx.size hn'.out w bx
          replace hap := Rg.hid hap
          rw [e1.out]
          clear hr' kg' h1
          go_wp2_with (at_builtin; refine Rg.wpList_append_run rfl (.tmp 31) (.tmp 32) 22 rfl _ _ rfl rfl _ _ hap.out ?_)
          go_roundw
          case rel => exact ⟨2, g2, cap2, rest2, by omega, rfl, rfl, hO3, b3⟩
          case measure => simp [intOf]
        · have hle : Hid (N1 ≤ cap') := by
            have := hO2.out.le
            rw [Wn.cl_len, ← hnl.out, e2.out] at this
            exact this
          have hrow : Hid (SRow wr (some ⟨g', 0, none⟩) (l ++ [x])) := SRow.of hO2.out.toRow
          have hnew : Hid (w.heap.size ≤ g') := hO2.out.new
          rw [e2.out]
          clear hr' kg'
          go_wp2
          go_ret
          exact ⟨g', cap', rfl, hrow, hle, bx, hnew⟩
end Go.Proofs.Ytnglfefgcdbgmaa
