/-
  Walks of layer 14: rows of texts of one's own; slices.Clone, slices.Grow, slices.Concat of texts. Walks of layer 14: Put.
-/
import Derived.Test.YtlclfkogbfigbaaCuAD
import Derived.Test.YtlclfkogbfigbaaShelf
import Derived.Shelf.Spec.SlicesGrow
import Derived.Deep.RegionHeld3
import Derived.Deep.DeepCutAuto
import Derived.Test.YtlclfkogbfigbaaCuAK
namespace Go.Proofs.Ytlclfkogbfigbaa
open Go.RowKit
theorem infoStr : (Try.prog.info? 9).map (fun i => (i.zero, i.size, i.bytes)) = some (some (.string ByteArray.empty), 1, 16) := by kernel_rfl
theorem infoStr' : ∃ i0, Try.prog.info? 9 = some i0 ∧ i0.zero = some (.string ByteArray.empty) ∧ i0.size = 1 ∧ i0.bytes = 16 := by
  have := infoStr
  cases h : Try.prog.info? 9 with
  | none => rw [h] at this; cases this
  | some i => rw [h] at this; simp only [Option.map_some, Option.some.injEq, Prod.mk.injEq] at this; exact ⟨i, rfl, this.1, this.2.1, this.2.2⟩
theorem app_nil {P : Program} {t e ty : TypeId} {i : TypeInfo} (ht : P.underlying t = some (.slice e)) (hi : P.info? e = some i) (g n cap : Nat) (hle : n ≤ cap) (a : Option Addr) (c : Nat) (W : World) :
    (Builtin.append_ #[t, t] ty #[.slice (some ⟨g, 0, none⟩) n cap, .slice a 0 c]).run P W = .ok (.slice (some ⟨g, 0, none⟩) n cap) W := by
  cases a <;> simp [Builtin.append_, run_underlying ht, sizeOf, typeInfo, hi, Builtin.lenOf, Builtin.firstCells, storeCells, loadCells, loadCellsFrom, hle]
theorem own_nil (W : World) : strE.Own W.heap.size (W.alloc (.cells #[] 9)) W.heap.size 0 [] [] := ⟨Rg.Bk.new (C := []) rfl, Nat.le_refl _, Nat.le_refl _, Nat.zero_le _, by simp⟩
/-- append of texts to a row of one's own -/
theorem app_texts {base g cap : Nat} {W : World} {l : List ByteArray} {rest : List Value} (h : strE.Own base W g cap l rest) (l2 : List ByteArray) (a : Option Addr) (c : Nat) (hr : SRow W a l2) (hB : base ≤ W.heap.size) (hn : l.length + l2.length ≤ 1000000) :
    ∃ g' cap' rest' W', (Builtin.append_ #[25, 25] 25 #[.slice (some ⟨g, 0, none⟩) l.length cap, .slice a l2.length c]).run Try.prog W = .ok (.slice (some ⟨g', 0, none⟩) (l.length + l2.length) cap') W' ∧ strE.Own base W' g' cap' (l ++ l2) rest' ∧ Below base W W' ∧ (∀ k, k < W.heap.size → k ≠ g → W'.heap[k]? = W.heap[k]?) := by
  obtain ⟨i0, hi, hz0, hz1, hz2⟩ := infoStr'
  rcases hr with rfl | ⟨b, o, rfl, hb, hat⟩
  · exact ⟨g, cap, rest, W, app_nil Try.underlying25 hi g l.length cap h.le a c W, by rw [List.append_nil]; exact h, Below.refl _ _, fun _ _ _ => rfl⟩
  · obtain ⟨g', cap', rest', W', h1, h2, h3, h4, _⟩ := h.appendRow (P := Try.prog) l2 25 25 i0 _ 16 Try.underlying25 hi hz0 hz1 hz2 rfl (some ⟨b, o, none⟩) c (.inr ⟨b, o, rfl, hb, hat⟩) hB (by omega) (by unfold maxLen; omega)
    exact ⟨g', cap', rest', W', h1, h2, h3, h4⟩
/-- an address of a block that w has not -/
def New (w : World) (a : Option Addr) : Prop := ∀ b o, a = some ⟨b, o, none⟩ → w.heap.size ≤ b
theorem New.nil {w : World} : New w none := fun _ _ h => by cases h
theorem New.blk {w : World} {g o : Nat} (h : w.heap.size ≤ g) : New w (some ⟨g, o, none⟩) := fun _ _ e => by cases e; exact h
theorem New.mono {w w' : World} {a : Option Addr} (h : New w' a) (hs : w.heap.size ≤ w'.heap.size) : New w a := fun b o e => Nat.le_trans hs (h b o e)
/-- slices.Clone of texts -/
theorem clone_any (a : Option Addr) (c : Nat) (l : List ByteArray) (w : World) (hl : l.length ≤ 1000000) (hr : SRow w a l) :
    Calls Try.prog 88 #[.slice a l.length c] w fun e w' => ∃ a' c', e = .returned (.slice a' l.length c') ∧ SRow w' a' l ∧ l.length ≤ c' ∧ Below w.heap.size w w' ∧ New w a' := by
  cases l with
  | nil =>
    cases a with
    | none => exact (Try.slices_Clone_string_nil 0 c w).mono fun e w' ⟨h1, h2⟩ => ⟨none, 0, h1, .inl rfl, Nat.le_refl _, by rw [h2]; exact Below.refl _ _, .nil⟩
    | some ad =>
      refine (Try.slices_Clone_string_zero ad c w).mono fun e w' ⟨v', h1, h2, h3, h4⟩ => ?_
      obtain ⟨g, cap, rest, e2, h5⟩ := Rg.El.Own.of (E := strE) (l := []) h2 h3 rfl
      exact ⟨some ⟨g, 0, none⟩, cap, by rw [h1, e2], .inl rfl, h5.le, h4, .blk h5.new⟩
  | cons x l =>
    obtain ⟨b, o, rfl, hb, hat, _⟩ := hr.cell (i := 0) (by simp)
    refine (Try.slices_Clone_string b o (x :: l).length c (x :: l) w (Nat.le_refl _) (by omega) (fun j hj => by
      rw [str_at hat hj, List.getD_eq_getElem?_getD, List.getElem?_eq_getElem hj]; rfl)).mono fun e w' ⟨v', h1, h2, h3, h4⟩ => ?_
    rw [List.take_length, ← str_flat] at h2
    obtain ⟨g, cap, rest, e2, h5⟩ := Rg.El.Own.of (E := strE) h2 h3 rfl
    exact ⟨some ⟨g, 0, none⟩, cap, by rw [h1, e2], SRow.of h5.toRow, h5.le, h4, .blk h5.new⟩
def gr_ren : Go.Shelf.Ren := ⟨fun | 4 => 84 | n => n, fun | 22 => 25 | 25 => 9 | 3 => 3 | 4 => 4 | 0 => 0 | 9 => 9 | 20 => 20 | n => n, fun | n => n⟩
theorem grLays : Go.Proofs.Lays8.n4 Try.prog gr_ren := {
  mixed := by kernel_rfl
  f4 := ⟨Try.f84.name, by decide, Try.func84.trans (congrArg some (by kernel_rfl))⟩
  t0 := Try.underlying0
  a0 := Try.isAgg0
  z0 := Try.sizeOf0
  v0 := Try.zeroValue0
  t3 := Try.underlying3
  a3 := Try.isAgg3
  z3 := Try.sizeOf3
  v3 := Try.zeroValue3
  t4 := Try.underlying4
  a4 := Try.isAgg4
  z4 := Try.sizeOf4
  v4 := Try.zeroValue4
  t9 := Try.underlying9
  a9 := Try.isAgg9
  z9 := Try.sizeOf9
  v9 := Try.zeroValue9
  t20 := Try.underlying20
  a20 := Try.isAgg20
  z20 := Try.sizeOf20
  v20 := Try.zeroValue20
  t22 := Try.underlying25
  a22 := Try.isAgg25
  z22 := Try.sizeOf25
  v22 := Try.zeroValue25 }
/-- slices.Grow of nothing -/
theorem grow_any (n : Nat) (hn : 1 ≤ n) (hn2 : n ≤ 100000) (w : World) :
    Calls Try.prog 84 #[.slice none 0 0, .int .i64 (n : Int)] w fun e w' => ∃ g cap rest, e = .returned (.slice (some ⟨g, 0, none⟩) 0 cap) ∧ strE.Own w.heap.size w' g cap [] rest ∧ Below w.heap.size w w' := by
  obtain ⟨i0, hi, hz0, hz1, hz2⟩ := infoStr'
  refine (Go.Proofs.Any8.slices_Grow_grow grLays i0 _ hi hz0 (by omega) none 0 0 n [] w (Nat.le_refl _) (by omega) (by rw [hz2]; omega) (by omega) (by simp) (fun _ => rfl) (fun a h => by cases h)).mono fun e w' ⟨h1, h2⟩ => ?_
  subst h1 h2
  have hge := grownCap_ge w (0 + n) 0 9
  have hcm : grownCap w (0 + n) 0 9 ≤ maxLen := grownCap_le_maxLen w (0 + n) 0 9 (by unfold maxLen; omega)
  have et : gr_ren.t 25 = 9 := rfl
  rw [et]
  generalize grownCap w (0 + n) 0 9 = G at *
  refine ⟨w.heap.size, G, (Builtin.zeroCells (Value.string ByteArray.empty).cells (0 + n - 0) ++ Builtin.zeroCells (Value.string ByteArray.empty).cells (G - (0 + n))).toList, rfl, ⟨?_, Nat.le_refl _, Nat.zero_le _, hcm, ?_⟩, ⟨rfl, rfl, rfl, by simp, fun k hk => Below.heap_alloc w.drew _ k hk⟩⟩
  · rw [show w.heap.size = w.drew.heap.size from rfl, heap_alloc_new]
    refine congrArg (fun x => some (Obj.cells x _ (0, 0))) ?_
    apply Array.ext'
    simp [strE, Rg.El.flat]
  · have hzl : ∀ n, (Builtin.zeroCells (Value.string ByteArray.empty).cells n).size = n * 1 := fun n => by rw [size_zeroCells]; rfl
    rw [strE.flat_nil, List.nil_append, Array.length_toList, Array.size_append, hzl, hzl]
    show G * 1 ≤ _
    omega
/-- what a concatenation has summed up, and has gathered, behind i of the two rows -/
def Wn.cs (n i : Nat) : Nat := if i = 0 then 0 else if i = 1 then n else n + 1
def Wn.cl (l : List ByteArray) (x : ByteArray) (i : Nat) : List ByteArray := if i = 0 then [] else if i = 1 then l else l ++ [x]
theorem Wn.cl_len (l : List ByteArray) (x : ByteArray) (i : Nat) : (Wn.cl l x i).length = Wn.cs l.length i := by
  unfold Wn.cl Wn.cs
  split
  · rfl
  · split <;> simp
/-- one append of a concatenation -/
theorem cat_step {base g cap i : Nat} {W : World} {l l2 : List ByteArray} {x : ByteArray} {rest : List Value} (h : strE.Own base W g cap (Wn.cl l x i) rest) (n M M2 : Nat) (hn : n = l.length) (hM : M = Wn.cs n i) (a : Option Addr) (c : Nat) (hr : SRow W a l2) (hM2 : M2 = l2.length) (h2 : Wn.cl l x i ++ l2 = Wn.cl l x (i + 1)) (hB : base ≤ W.heap.size) (hn2 : n ≤ 1000) (w : World) (hbw : Below base w W) :
    ∃ g' cap' rest' W', (Builtin.append_ #[25, 25] 25 #[.slice (some ⟨g, 0, none⟩) M cap, .slice a M2 c]).run Try.prog W = .ok (.slice (some ⟨g', 0, none⟩) (Wn.cs n (i + 1)) cap') W' ∧ Hid (strE.Own base W' g' cap' (Wn.cl l x (i + 1)) rest') ∧ Below base w W' := by
  subst hn hM hM2
  have e := congrArg List.length h2
  rw [List.length_append, Wn.cl_len, Wn.cl_len] at e
  have hcs : ∀ j, Wn.cs l.length j ≤ l.length + 1 := fun j => by unfold Wn.cs; split <;> (try split) <;> omega
  have := hcs (i + 1)
  obtain ⟨g', cap', rest', W', h1, h3, h4, _⟩ := app_texts h l2 a c hr hB (by rw [Wn.cl_len]; omega)
  rw [Wn.cl_len, e] at h1
  rw [h2] at h3
  exact ⟨g', cap', rest', W', h1, h3, hbw.trans h4⟩
set_option maxHeartbeats 2000000 in
set_option maxRecDepth 100000 in
theorem concat_any (l : List ByteArray) (n N1 : Nat) (hnl : Hid (n = l.length)) (hN1 : Hid (N1 = n + 1)) (hn : n ≤ 1000) (x : ByteArray) (a : Option Addr) (c B g : Nat) (w : World) (hr : Hid (SRow w a l)) (kB : Rg.Bk B [.slice a n c, .slice (some ⟨g, 0, none⟩) 1 1] 25 w) (kg : Hid (Rg.Bk g [.string x] 9 w)) :
    Calls Try.prog 68 #[.slice (some ⟨B, 0, none⟩) 2 2] w fun e w' => ∃ g' cap, e = .returned (.slice (some ⟨g', 0, none⟩) N1 cap) ∧ Hid (SRow w' (some ⟨g', 0, none⟩) (l ++ [x])) ∧ Hid (N1 ≤ cap) ∧ Below w.heap.size w w' ∧ Hid (w.heap.size ≤ g') := by
  have c0 : w.cell? ⟨B, 0, none⟩ = some (.slice a n c) := kB.cell 0
  have c1 : w.cell? ⟨B, 1, none⟩ = some (.slice (some ⟨g, 0, none⟩) 1 1) := kB.cell 1
  have kB' := Rg.hid kB
  have HG : Hid (∀ W, Calls Try.prog 84 #[.slice none 0 0, .int .i64 (N1 : Int)] W fun e w' => ∃ g cap rest, e = .returned (.slice (some ⟨g, 0, none⟩) 0 cap) ∧ Hid (strE.Own W.heap.size w' g cap [] rest) ∧ Below W.heap.size W w') := by
    rw [hN1.out]; exact grow_any (n + 1) (by omega) (by omega)
  have q0 : wrap64 ((n : Int) + 1) = (N1 : Int) := by rw [hN1.out]; unfold wrap64; omega
  have q1 : wrap64 (n : Int) = (n : Int) := by unfold wrap64; omega
  have d0 : decide ((n : Int) < 0) = false := by simp
  have d1 : decide ((N1 : Int) < 0) = false := by simp
  have e0 : Wn.cs n 0 = 0 := rfl
  have e1 : Wn.cs n 1 = n := rfl
  have e2 : Wn.cs n 2 = N1 := hN1.out.symm
  replace e0 := Rg.hid e0; replace e1 := Rg.hid e1; replace e2 := Rg.hid e2
  have hn' := Rg.hid hn
  clear kB hn
  go_enter Try.func68, Try.ntmps68
  go_wp2
  go_loopw [3, 11] (fun vs vi wr => wr = w ∧ ∃ i : Nat, i ≤ 2 ∧ vi = .int .i64 i ∧ vs = .int .i64 (Wn.cs n i : Nat)) (fun _ vi _ => 2 - (intOf vi).toNat)
  case atStart => exact ⟨rfl, 0, by omega, rfl, rfl⟩
  case round =>
    obtain ⟨hww, i, hi2, rfl, rfl⟩ := hrel
    obtain rfl := hww.symm
    obtain rfl | rfl | rfl : i = 0 ∨ i = 1 ∨ i = 2 := by omega
    · rw [e0.out]
      go_wp2
      go_roundw
      case rel => exact ⟨trivial, 1, by omega, rfl, by simp [e1.out, q1]⟩
      case measure => simp [intOf]
    · rw [e1.out]
      go_wp2
      go_roundw
      case rel => exact ⟨trivial, 2, by omega, rfl, by simp [e2.out, q0]⟩
      case measure => simp [intOf]
    · rw [e2.out]
      go_wp2_with (go_at_call 84; refine (HG.out _).mono ?_; rintro e w2 ⟨G, cap, rest, rfl, hO, b2⟩)
      go_loopw [6, 27] (fun vl vi wx => ∃ (i g' cap' : Nat) (rest' : List Value), i ≤ 2 ∧ vi = .int .i64 i ∧ vl = .slice (some ⟨g', 0, none⟩) (Wn.cs n i) cap' ∧ Hid (strE.Own w.heap.size wx g' cap' (Wn.cl l x i) rest') ∧ Below w.heap.size w wx) (fun _ vi _ => 2 - (intOf vi).toNat)
      case atStart => exact ⟨0, G, cap, rest, by omega, rfl, by rw [e0.out], hO, b2⟩
      case round =>
        obtain ⟨i, g', cap', rest', hi2, rfl, rfl, hO2, bx⟩ := hrel
        have hr' := hr.out.below bx
        have kg' := kg.out.below bx kg.out.lt
        have kB2 := kB'.out.below bx kB'.out.lt
        have c0' : wr.cell? ⟨B, 0, none⟩ = some (.slice a n c) := kB2.cell 0
        have c1' : wr.cell? ⟨B, 1, none⟩ = some (.slice (some ⟨g, 0, none⟩) 1 1) := kB2.cell 1
        clear kB2
        obtain rfl | rfl | rfl : i = 0 ∨ i = 1 ∨ i = 2 := by omega
        · obtain ⟨g2, cap2, rest2, W2, hap, hO3, b3⟩ := cat_step hO2.out n 0 n hnl.out e0.out.symm a c hr' hnl.out rfl bx.size hn'.out w bx
          replace hap := Rg.hid hap
          rw [e0.out]
          clear hr' kg'
          go_wp2_with (at_builtin; refine Rg.wpList_append_run rfl (.tmp 31) (.tmp 32) 25 rfl _ _ rfl rfl _ _ hap.out ?_)
          go_roundw
          case rel => exact ⟨1, g2, cap2, rest2, by omega, rfl, rfl, hO3, b3⟩
          case measure => simp [intOf]
        · have h1 : SRow wr (some ⟨g, 0, none⟩) [x] := .inr ⟨g, 0, rfl, kg'.lt, fun t u ht => by rw [Nat.zero_add, kg'.cell]; exact ht⟩
          obtain ⟨g2, cap2, rest2, W2, hap, hO3, b3⟩ := cat_step hO2.out n n 1 hnl.out e1.out.symm (some ⟨g, 0, none⟩) 1 h1 rfl rfl bx.size hn'.out w bx
          replace hap := Rg.hid hap
          rw [e1.out]
          clear hr' kg' h1
          go_wp2_with (at_builtin; refine Rg.wpList_append_run rfl (.tmp 31) (.tmp 32) 25 rfl _ _ rfl rfl _ _ hap.out ?_)
          go_roundw
          case rel => exact ⟨2, g2, cap2, rest2, by omega, rfl, rfl, hO3, b3⟩
          case measure => simp [intOf]
        · have hle : Hid (N1 ≤ cap') := by
            have := hO2.out.le
            rw [Wn.cl_len, ← hnl.out, e2.out] at this
            exact this
          have hrow : Hid (SRow wr (some ⟨g', 0, none⟩) (l ++ [x])) := SRow.of hO2.out.toRow
          have hnew : Hid (w.heap.size ≤ g') := hO2.out.new
          rw [e2.out]
          clear hr' kg'
          go_wp2
          go_ret
          exact ⟨g', cap', rfl, hrow, hle, bx, hnew⟩
end Go.Proofs.Ytlclfkogbfigbaa

namespace Go.Proofs.Ytlclfkogbfigbaa
open Go.RowKit
theorem Rg.ret4 {b : Nat} {C : List Value} {ty : TypeId} {W : World} (h : Bk b C ty W) (hC : C.length = 4) (v0 v1 v2 v3 : Value) :
    Bk b [v0, v1, v2, v3] ty ((((W.setCell ⟨b, 0, none⟩ v0).setCell ⟨b, 1, none⟩ v1).setCell ⟨b, 2, none⟩ v2).setCell ⟨b, 3, none⟩ v3) ∧ Only b W ((((W.setCell ⟨b, 0, none⟩ v0).setCell ⟨b, 1, none⟩ v1).setCell ⟨b, 2, none⟩ v2).setCell ⟨b, 3, none⟩ v3) := by
  have k := (((h.set 0 v0).set 1 v1).set 2 v2).set 3 v3
  match C, hC with
  | [_, _, _, _], _ => exact ⟨k, (((Only.setCell W b 0 v0).trans (Only.setCell _ b 1 v1)).trans (Only.setCell _ b 2 v2)).trans (Only.setCell _ b 3 v3)⟩
/-- a call that says whether a window is right -/
def RightsAt (F : Nat) (m s b : Int) (a : Option Addr) (n c : Nat) (r : Bool) : Prop := ∀ W, Calls Try.prog F #[.agg #[.int .i64 m, .int .i64 s, .int .i64 b, .slice a n c]] W fun e w' => e = .returned (.bool r) ∧ Below W.heap.size W w'
set_option maxHeartbeats 2000000 in
set_option maxRecDepth 100000 in
theorem put_wrong (m s b : Int) (a : Option Addr) (n c : Nat) (x : ByteArray) (w : World) (HR : RightsAt 66 m s b a n c false) :
    Calls Try.prog 44 #[.agg #[.int .i64 m, .int .i64 s, .int .i64 b, .slice a n c], .string x] w fun e w' => e = .returned (.tuple #[.agg #[.int .i64 m, .int .i64 s, .int .i64 b, .slice a n c], .int .i64 0, .int .i64 1]) ∧ Below w.heap.size w w' := by
  have kB1 : Hid (Rg.Bk w.heap.size [.int .i64 m, .int .i64 s, .int .i64 b, .slice a n c] 27 ((w.alloc (.cells #[.int .i64 m, .int .i64 s, .int .i64 b, .slice a n c] 27)).alloc (.cells #[.int .i64 0, .int .i64 0, .int .i64 0, .slice none 0 0] 27))) := (Rg.Bk.new rfl).old _
  have kR1 : Hid (Rg.Bk (w.heap.size + 1) [.int .i64 0, .int .i64 0, .int .i64 0, .slice none 0 0] 27 ((w.alloc (.cells #[.int .i64 m, .int .i64 s, .int .i64 b, .slice a n c] 27)).alloc (.cells #[.int .i64 0, .int .i64 0, .int .i64 0, .slice none 0 0] 27))) := Rg.Bk.new (by simp)
  have hb1 := Rg.hid (Rg.al2 w (.cells #[.int .i64 m, .int .i64 s, .int .i64 b, .slice a n c] 27) (.cells #[.int .i64 0, .int .i64 0, .int .i64 0, .slice none 0 0] 27))
  go_enter Try.func44, Try.ntmps44
  go_upto_region 1 with fail
  generalize World.alloc _ _ = w1 at *
  obtain ⟨B, hB⟩ : ∃ B, B = w.heap.size := ⟨_, rfl⟩
  obtain ⟨R, hR⟩ : ∃ R, R = w.heap.size + 1 := ⟨_, rfl⟩
  rw [← hR] at kR1 ⊢
  rw [← hB] at kB1 ⊢
  have hBR : B ≠ R := by omega
  have hBw : w.heap.size ≤ B := by omega
  have hRw : w.heap.size ≤ R := by omega
  clear hB hR
  have z0 : w1.cell? ⟨B, 0, none⟩ = some (.int .i64 m) := kB1.out.cell 0
  have z1 : w1.cell? ⟨B, 1, none⟩ = some (.int .i64 s) := kB1.out.cell 1
  have z2 : w1.cell? ⟨B, 2, none⟩ = some (.int .i64 b) := kB1.out.cell 2
  have z3 : w1.cell? ⟨B, 3, none⟩ = some (.slice a n c) := kB1.out.cell 3
  go_upto_region 2 with (go_at_call 66; refine (HR _).mono ?_; rintro e w2 ⟨rfl, b2⟩)
  have kB2 := kB1.out.below b2 kB1.out.lt
  have kR2 := kR1.out.below b2 kR1.out.lt
  have hb2 := Rg.chain hb1.out b2
  clear z0 z1 z2 z3 kB1 kR1 hb1 HR
  obtain ⟨kE, oE⟩ := Rg.ret4 kR2 rfl (.int .i64 m) (.int .i64 s) (.int .i64 b) (.slice a n c)
  have hb4 := Rg.hid (hb2.trans (oE.bel hRw))
  have z0 : w2.cell? ⟨B, 0, none⟩ = some (.int .i64 m) := kB2.cell 0
  have z1 : w2.cell? ⟨B, 1, none⟩ = some (.int .i64 s) := kB2.cell 1
  have z2 : w2.cell? ⟨B, 2, none⟩ = some (.int .i64 b) := kB2.cell 2
  have z3 : w2.cell? ⟨B, 3, none⟩ = some (.slice a n c) := kB2.cell 3
  have r0 : w2.cell? ⟨R, 0, none⟩ = some (.int .i64 0) := kR2.cell 0
  have r1 : w2.cell? ⟨R, 1, none⟩ = some (.int .i64 0) := kR2.cell 1
  have r2 : w2.cell? ⟨R, 2, none⟩ = some (.int .i64 0) := kR2.cell 2
  have r3 : w2.cell? ⟨R, 3, none⟩ = some (.slice none 0 0) := kR2.cell 3
  have rf := kR2.thaw
  replace kE := Rg.hid kE
  clear oE kB2 kR2 b2 hb2
  go_wp2
  replace kE := kE.out
  replace hb4 := hb4.out
  generalize World.setCell _ _ _ = WE at *
  exact bodyPost_ret (v := .tuple #[.agg #[.int .i64 m, .int .i64 s, .int .i64 b, .slice a n c], .int .i64 0, .int .i64 1]) (by simp [results, Try.results44, go_sem, kE.cell]) rfl ⟨rfl, hb4⟩
set_option maxHeartbeats 2000000 in
set_option maxRecDepth 100000 in
theorem put_full (m s b : Int) (a : Option Addr) (n c : Nat) (x : ByteArray) (w : World) (HR : RightsAt 66 m s b a n c true) (hf : ((n : Int) == s) = true) :
    Calls Try.prog 44 #[.agg #[.int .i64 m, .int .i64 s, .int .i64 b, .slice a n c], .string x] w fun e w' => e = .returned (.tuple #[.agg #[.int .i64 m, .int .i64 s, .int .i64 b, .slice a n c], .int .i64 0, .int .i64 8]) ∧ Below w.heap.size w w' := by
  have kB1 : Hid (Rg.Bk w.heap.size [.int .i64 m, .int .i64 s, .int .i64 b, .slice a n c] 27 ((w.alloc (.cells #[.int .i64 m, .int .i64 s, .int .i64 b, .slice a n c] 27)).alloc (.cells #[.int .i64 0, .int .i64 0, .int .i64 0, .slice none 0 0] 27))) := (Rg.Bk.new rfl).old _
  have kR1 : Hid (Rg.Bk (w.heap.size + 1) [.int .i64 0, .int .i64 0, .int .i64 0, .slice none 0 0] 27 ((w.alloc (.cells #[.int .i64 m, .int .i64 s, .int .i64 b, .slice a n c] 27)).alloc (.cells #[.int .i64 0, .int .i64 0, .int .i64 0, .slice none 0 0] 27))) := Rg.Bk.new (by simp)
  have hb1 := Rg.hid (Rg.al2 w (.cells #[.int .i64 m, .int .i64 s, .int .i64 b, .slice a n c] 27) (.cells #[.int .i64 0, .int .i64 0, .int .i64 0, .slice none 0 0] 27))
  go_enter Try.func44, Try.ntmps44
  go_upto_region 1 with fail
  generalize World.alloc _ _ = w1 at *
  obtain ⟨B, hB⟩ : ∃ B, B = w.heap.size := ⟨_, rfl⟩
  obtain ⟨R, hR⟩ : ∃ R, R = w.heap.size + 1 := ⟨_, rfl⟩
  rw [← hR] at kR1 ⊢
  rw [← hB] at kB1 ⊢
  have hBR : B ≠ R := by omega
  have hBw : w.heap.size ≤ B := by omega
  have hRw : w.heap.size ≤ R := by omega
  clear hB hR
  have z0 : w1.cell? ⟨B, 0, none⟩ = some (.int .i64 m) := kB1.out.cell 0
  have z1 : w1.cell? ⟨B, 1, none⟩ = some (.int .i64 s) := kB1.out.cell 1
  have z2 : w1.cell? ⟨B, 2, none⟩ = some (.int .i64 b) := kB1.out.cell 2
  have z3 : w1.cell? ⟨B, 3, none⟩ = some (.slice a n c) := kB1.out.cell 3
  go_upto_region 3 with (go_at_call 66; refine (HR _).mono ?_; rintro e w2 ⟨rfl, b2⟩)
  have kB2 := kB1.out.below b2 kB1.out.lt
  have kR2 := kR1.out.below b2 kR1.out.lt
  have hb2 := Rg.chain hb1.out b2
  clear z0 z1 z2 z3 kB1 kR1 hb1 HR
  obtain ⟨kE, oE⟩ := Rg.ret4 kR2 rfl (.int .i64 m) (.int .i64 s) (.int .i64 b) (.slice a n c)
  have hb4 := Rg.hid (hb2.trans (oE.bel hRw))
  have z0 : w2.cell? ⟨B, 0, none⟩ = some (.int .i64 m) := kB2.cell 0
  have z1 : w2.cell? ⟨B, 1, none⟩ = some (.int .i64 s) := kB2.cell 1
  have z2 : w2.cell? ⟨B, 2, none⟩ = some (.int .i64 b) := kB2.cell 2
  have z3 : w2.cell? ⟨B, 3, none⟩ = some (.slice a n c) := kB2.cell 3
  have r0 : w2.cell? ⟨R, 0, none⟩ = some (.int .i64 0) := kR2.cell 0
  have r1 : w2.cell? ⟨R, 1, none⟩ = some (.int .i64 0) := kR2.cell 1
  have r2 : w2.cell? ⟨R, 2, none⟩ = some (.int .i64 0) := kR2.cell 2
  have r3 : w2.cell? ⟨R, 3, none⟩ = some (.slice none 0 0) := kR2.cell 3
  have rf := kR2.thaw
  replace kE := Rg.hid kE
  clear oE kB2 kR2 b2 hb2
  go_wp2
  replace kE := kE.out
  replace hb4 := hb4.out
  generalize World.setCell _ _ _ = WE at *
  exact bodyPost_ret (v := .tuple #[.agg #[.int .i64 m, .int .i64 s, .int .i64 b, .slice a n c], .int .i64 0, .int .i64 8]) (by simp [results, Try.results44, go_sem, kE.cell]) rfl ⟨rfl, hb4⟩
set_option maxHeartbeats 4000000 in
set_option maxRecDepth 100000 in
theorem put_right (m s b N : Int) (a : Option Addr) (n N1 c : Nat) (x : ByteArray) (l : List ByteArray) (w : World) (HR : RightsAt 66 m s b a n c true) (hf : ((n : Int) == s) = false)
    (HN : Hid (∀ W, Calls Try.prog 67 #[.agg #[.int .i64 m, .int .i64 s, .int .i64 b, .slice a n c], .int .i64 (n : Int)] W fun e w' => e = .returned (.int .i64 N) ∧ Below W.heap.size W w'))
    (HC : Hid (∀ W B g, SRow W a l → Rg.Bk B [.slice a n c, .slice (some ⟨g, 0, none⟩) 1 1] 25 W → Rg.Bk g [.string x] 9 W → Calls Try.prog 68 #[.slice (some ⟨B, 0, none⟩) 2 2] W fun e w' => ∃ g' cap, e = .returned (.slice (some ⟨g', 0, none⟩) N1 cap) ∧ Hid (SRow w' (some ⟨g', 0, none⟩) (l ++ [x])) ∧ Hid (N1 ≤ cap) ∧ Below W.heap.size W w' ∧ Hid (W.heap.size ≤ g')))
    (hrow : Hid (SRow w a l)) :
    Calls Try.prog 44 #[.agg #[.int .i64 m, .int .i64 s, .int .i64 b, .slice a n c], .string x] w fun e w' => ∃ g cap, e = .returned (.tuple #[.agg #[.int .i64 m, .int .i64 s, .int .i64 b, .slice (some ⟨g, 0, none⟩) N1 cap], .int .i64 N, .int .i64 0]) ∧ Hid (SRow w' (some ⟨g, 0, none⟩) (l ++ [x])) ∧ Hid (N1 ≤ cap) ∧ Below w.heap.size w w' ∧ Hid (w.heap.size ≤ g) := by
  have kB1 : Hid (Rg.Bk w.heap.size [.int .i64 m, .int .i64 s, .int .i64 b, .slice a n c] 27 ((w.alloc (.cells #[.int .i64 m, .int .i64 s, .int .i64 b, .slice a n c] 27)).alloc (.cells #[.int .i64 0, .int .i64 0, .int .i64 0, .slice none 0 0] 27))) := (Rg.Bk.new rfl).old _
  have kR1 : Hid (Rg.Bk (w.heap.size + 1) [.int .i64 0, .int .i64 0, .int .i64 0, .slice none 0 0] 27 ((w.alloc (.cells #[.int .i64 m, .int .i64 s, .int .i64 b, .slice a n c] 27)).alloc (.cells #[.int .i64 0, .int .i64 0, .int .i64 0, .slice none 0 0] 27))) := Rg.Bk.new (by simp)
  have hb1 := Rg.hid (Rg.al2 w (.cells #[.int .i64 m, .int .i64 s, .int .i64 b, .slice a n c] 27) (.cells #[.int .i64 0, .int .i64 0, .int .i64 0, .slice none 0 0] 27))
  go_enter Try.func44, Try.ntmps44
  go_upto_region 1 with fail
  generalize World.alloc _ _ = w1 at *
  obtain ⟨B, hB⟩ : ∃ B, B = w.heap.size := ⟨_, rfl⟩
  obtain ⟨R, hR⟩ : ∃ R, R = w.heap.size + 1 := ⟨_, rfl⟩
  rw [← hR] at kR1 ⊢
  rw [← hB] at kB1 ⊢
  have hBR : B ≠ R := by omega
  have hBw : w.heap.size ≤ B := by omega
  have hRw : w.heap.size ≤ R := by omega
  clear hB hR
  have z0 : w1.cell? ⟨B, 0, none⟩ = some (.int .i64 m) := kB1.out.cell 0
  have z1 : w1.cell? ⟨B, 1, none⟩ = some (.int .i64 s) := kB1.out.cell 1
  have z2 : w1.cell? ⟨B, 2, none⟩ = some (.int .i64 b) := kB1.out.cell 2
  have z3 : w1.cell? ⟨B, 3, none⟩ = some (.slice a n c) := kB1.out.cell 3
  go_upto_region 3 with (go_at_call 66; refine (HR _).mono ?_; rintro e w2 ⟨rfl, b2⟩)
  have kB2 := kB1.out.below b2 kB1.out.lt
  have kR2 := Rg.hid (kR1.out.below b2 kR1.out.lt)
  have hb2 := Rg.hid (Rg.chain hb1.out b2)
  clear z0 z1 z2 z3 kB1 kR1 hb1 HR b2
  have z0 : w2.cell? ⟨B, 0, none⟩ = some (.int .i64 m) := kB2.cell 0
  have z1 : w2.cell? ⟨B, 1, none⟩ = some (.int .i64 s) := kB2.cell 1
  have z2 : w2.cell? ⟨B, 2, none⟩ = some (.int .i64 b) := kB2.cell 2
  have z3 : w2.cell? ⟨B, 3, none⟩ = some (.slice a n c) := kB2.cell 3
  replace kB2 := Rg.hid kB2
  go_upto_region 6 with (go_at_call 67; refine (HN.out _).mono ?_; rintro e w3 ⟨rfl, b3⟩)
  have kB3 := kB2.out.below b3 kB2.out.lt
  have kR3 := Rg.hid (kR2.out.below b3 kR2.out.lt)
  have hb3 := Rg.hid (Rg.chain hb2.out b3)
  clear z0 z1 z2 z3 kB2 kR2 hb2 HN b3
  have z0 : w3.cell? ⟨B, 0, none⟩ = some (.int .i64 m) := kB3.cell 0
  have z1 : w3.cell? ⟨B, 1, none⟩ = some (.int .i64 s) := kB3.cell 1
  have z2 : w3.cell? ⟨B, 2, none⟩ = some (.int .i64 b) := kB3.cell 2
  have z3 : w3.cell? ⟨B, 3, none⟩ = some (.slice a n c) := kB3.cell 3
  have hr3 := Rg.hid (hrow.out.below hb3.out)
  have rfB := kB3.thaw
  have kL := Rg.hid (Rg.al2 w3 (.cells #[.string x] 9) (.cells #[.slice a n c, .slice (some ⟨w3.heap.size, 0, none⟩) 1 1] 25))
  have HC3 : Hid (Calls Try.prog 68 #[.slice (some ⟨w3.heap.size + 1, 0, none⟩) 2 2] ((w3.alloc (.cells #[.string x] 9)).alloc (.cells #[.slice a n c, .slice (some ⟨w3.heap.size, 0, none⟩) 1 1] 25)) fun e w' => ∃ g' cap, e = .returned (.slice (some ⟨g', 0, none⟩) N1 cap) ∧ Hid (w.heap.size ≤ g') ∧ Hid (N1 ≤ cap) ∧ Hid (SRow (w'.setCell ⟨B, 3, none⟩ (.slice (some ⟨g', 0, none⟩) N1 cap)) (some ⟨g', 0, none⟩) (l ++ [x])) ∧ w'.cell? ⟨B, 3, none⟩ = some (.slice a n c) ∧ (∀ i, w'.frozen? ⟨B, i, none⟩ = false) ∧ Hid (Rg.Bk B [.int .i64 m, .int .i64 s, .int .i64 b, .slice (some ⟨g', 0, none⟩) N1 cap] 27 (w'.setCell ⟨B, 3, none⟩ (.slice (some ⟨g', 0, none⟩) N1 cap))) ∧ Hid (Rg.Bk R [.int .i64 0, .int .i64 0, .int .i64 0, .slice none 0 0] 27 (w'.setCell ⟨B, 3, none⟩ (.slice (some ⟨g', 0, none⟩) N1 cap))) ∧ Hid (Below w.heap.size w (w'.setCell ⟨B, 3, none⟩ (.slice (some ⟨g', 0, none⟩) N1 cap)))) :=
    (HC.out _ (w3.heap.size + 1) w3.heap.size (hr3.out.below kL.out) (Rg.Bk.new (by simp)) ((Rg.Bk.new rfl).old _)).mono fun e w' ⟨g', cap, h1, h2, h3, h4, h6⟩ => by
      have h5 := Rg.chain kL.out h4
      have k5 := kB3.below h5 kB3.lt
      have r5 := kR3.out.below h5 kR3.out.lt
      have o5 := Rg.Only.setCell w' B 3 (.slice (some ⟨g', 0, none⟩) N1 cap)
      exact ⟨g', cap, h1, Nat.le_trans (Rg.chain hb3.out kL.out).size h6.out, h3, h2.out.only k5 (fun x h => by cases h) o5, k5.cell 3, k5.thaw, k5.set 3 _, r5.other (fun e => hBR e.symm) _, (Rg.chain hb3.out h5).trans (o5.bel hBw)⟩
  clear HC hr3 kL kR3 hb3 kB3
  go_upto_region 7 with (go_at_call 68; refine HC3.out.mono ?_; rintro e w4 ⟨g, cap, rfl, hnw, hc4, hs4, y3, yf, kB4, kR4, b4⟩)
  generalize World.setCell _ _ _ = w5 at *
  replace kB4 := kB4.out
  replace kR4 := kR4.out
  clear z0 z1 z2 z3 rfB y3 yf HC3
  obtain ⟨kE, oE⟩ := Rg.ret4 kR4 rfl (.int .i64 m) (.int .i64 s) (.int .i64 b) (.slice (some ⟨g, 0, none⟩) N1 cap)
  have hb4 := Rg.hid (b4.out.trans (oE.bel hRw))
  have hs5 := Rg.hid (hs4.out.only kR4 (fun x h => by cases h) oE)
  have z0 : w5.cell? ⟨B, 0, none⟩ = some (.int .i64 m) := kB4.cell 0
  have z1 : w5.cell? ⟨B, 1, none⟩ = some (.int .i64 s) := kB4.cell 1
  have z2 : w5.cell? ⟨B, 2, none⟩ = some (.int .i64 b) := kB4.cell 2
  have z3 : w5.cell? ⟨B, 3, none⟩ = some (.slice (some ⟨g, 0, none⟩) N1 cap) := kB4.cell 3
  have r0 : w5.cell? ⟨R, 0, none⟩ = some (.int .i64 0) := kR4.cell 0
  have r1 : w5.cell? ⟨R, 1, none⟩ = some (.int .i64 0) := kR4.cell 1
  have r2 : w5.cell? ⟨R, 2, none⟩ = some (.int .i64 0) := kR4.cell 2
  have r3 : w5.cell? ⟨R, 3, none⟩ = some (.slice none 0 0) := kR4.cell 3
  have rf := kR4.thaw
  replace kE := Rg.hid kE
  clear oE kB4 kR4 b4 hs4
  go_wp2
  replace kE := kE.out
  replace hb4 := hb4.out
  replace hs5 := hs5.out
  generalize World.setCell _ _ _ = WE at *
  exact bodyPost_ret (v := .tuple #[.agg #[.int .i64 m, .int .i64 s, .int .i64 b, .slice (some ⟨g, 0, none⟩) N1 cap], .int .i64 N, .int .i64 0]) (by simp [results, Try.results44, go_sem, kE.cell]) rfl ⟨g, cap, rfl, hs5, hc4, hb4, hnw⟩
/-- What Put answers. -/
def PPost (w : World) (r : Wn.W × Int × Nat) (e : Ending) (w' : World) : Prop := ∃ a c, e = .returned (.tuple #[WV r.1 a c, .int .i64 r.2.1, .int .i64 (r.2.2 : Nat)]) ∧ WAt w' r.1 a c ∧ Below w.heap.size w w'
/-- What Put answers, and that its list is as it was, or new. -/
def PPostN (w : World) (X : Wn.W) (a0 : Option Addr) (c0 : Nat) (r : Wn.W × Int × Nat) (e : Ending) (w' : World) : Prop := ∃ a c, e = .returned (.tuple #[WV r.1 a c, .int .i64 r.2.1, .int .i64 (r.2.2 : Nat)]) ∧ WAt w' r.1 a c ∧ Below w.heap.size w w' ∧ ((r.1 = X ∧ a = a0 ∧ c = c0) ∨ New w a)
theorem put_anyN (X : Wn.W) (a : Option Addr) (c : Nat) (x : ByteArray) (w : World) (h : WAt w X a c) :
    Calls Try.prog 44 #[WV X a c, .string x] w fun e w' => PPostN w X a c (Wn.put X x) e w' := by
  have HR : RightsAt 66 X.md X.sz X.bs a X.l.length c (Wn.rt X) := fun W => isRight_any X a c W
  cases hr : Wn.rt X with
  | false =>
    rw [hr] at HR
    rw [Wn.put_arg hr]
    exact (put_wrong _ _ _ a _ c x w HR).mono fun e w' ⟨h1, h2⟩ => ⟨a, c, h1, h.below h2, h2, .inl ⟨rfl, rfl, rfl⟩⟩
  | true =>
    rw [hr] at HR
    have hp := Wn.rt_parts hr
    by_cases hl : (X.l.length : Int) = X.sz
    · rw [Wn.put_full hr hl]
      exact (put_full _ _ _ a _ c x w HR (by simp [hl])).mono fun e w' ⟨h1, h2⟩ => ⟨a, c, h1, h.below h2, h2, .inl ⟨rfl, rfl, rfl⟩⟩
    · rw [Wn.put_ok hr hl]
      refine (put_right X.md X.sz X.bs _ a X.l.length (X.l.length + 1) c x X.l w HR (by simp [hl]) (fun W => numberAt_any X a c X.l.length hr (by omega) W) (fun W B g h1 h2 h3 => concat_any X.l _ _ rfl rfl (by omega) x a c B g W h1 h2 h3) h.row).mono fun e w' ⟨g, cap, h1, h2, h3, h4, h5⟩ => ?_
      refine ⟨some ⟨g, 0, none⟩, cap, ?_, ⟨h2.out, ?_⟩, h4, .inr (.blk h5.out)⟩
      · rw [h1]
        show _ = Ending.returned (.tuple #[WV ⟨_, _, _, _⟩ _ _, _, _])
        unfold WV
        simp only [List.length_append, List.length_singleton]
        rfl
      · simpa using h3.out
theorem put_any (X : Wn.W) (a : Option Addr) (c : Nat) (x : ByteArray) (w : World) (h : WAt w X a c) :
    Calls Try.prog 44 #[WV X a c, .string x] w fun e w' => PPost w (Wn.put X x) e w' := (put_anyN X a c x w h).mono fun _ _ ⟨a', c', h1, h2, h3, _⟩ => ⟨a', c', h1, h2, h3⟩
end Go.Proofs.Ytlclfkogbfigbaa
