/-
  Walks of layer 15: rows of pieces of one's own; slices.Clone, slices.Grow, slices.Concat of pieces. Walks of layer 15: sendText; what stays when a queue of one's own turns. Walks of layer 15: sendWaiting.
-/
import Derived.Test.YtfiffbohhhehkaaGreatBuEndD
import Derived.Test.YtfiffbohhhehkaaGreatBuWinA
namespace Go.Proofs.YtfiffbohhhehkaaGreat
open Go.RowKit
theorem infoPc : (Tryz.prog.info? 44).map (fun i => (i.zero, i.size, i.bytes)) = some (some (.agg #[.int .i64 0, .string ByteArray.empty]), 2, 24) := by kernel_rfl
theorem infoPc' : ∃ i0, Tryz.prog.info? 44 = some i0 ∧ i0.zero = some (.agg #[.int .i64 0, .string ByteArray.empty]) ∧ i0.size = 2 ∧ i0.bytes = 24 := by
  have := infoPc
  cases h : Tryz.prog.info? 44 with
  | none => rw [h] at this; cases this
  | some i => rw [h] at this; simp only [Option.map_some, Option.some.injEq, Prod.mk.injEq] at this; exact ⟨i, rfl, this.1, this.2.1, this.2.2⟩
theorem ownp_nil (W : World) : pcE.Own W.heap.size (W.alloc (.cells #[] 44)) W.heap.size 0 [] [] := ⟨Rg.Bk.new (C := []) rfl, Nat.le_refl _, Nat.le_refl _, Nat.zero_le _, by simp⟩
/-- append of texts to a row of one's own -/
theorem app_pieces {base g cap : Nat} {W : World} {l : List Gp.Pc} {rest : List Value} (h : pcE.Own base W g cap l rest) (l2 : List Gp.Pc) (a : Option Addr) (c : Nat) (hr : ERow pcE W a l2) (hB : base ≤ W.heap.size) (hn : l.length + l2.length ≤ 1000000) :
    ∃ g' cap' rest' W', (Builtin.append_ #[26, 26] 26 #[.slice (some ⟨g, 0, none⟩) l.length cap, .slice a l2.length c]).run Tryz.prog W = .ok (.slice (some ⟨g', 0, none⟩) (l.length + l2.length) cap') W' ∧ pcE.Own base W' g' cap' (l ++ l2) rest' ∧ Below base W W' ∧ (∀ k, k < W.heap.size → k ≠ g → W'.heap[k]? = W.heap[k]?) := by
  obtain ⟨i0, hi, hz0, hz1, hz2⟩ := infoPc'
  rcases hr with rfl | ⟨b, o, rfl, hb, hat⟩
  · exact ⟨g, cap, rest, W, app_nil Tryz.underlying26 hi g l.length cap h.le a c W, by rw [List.append_nil]; exact h, Below.refl _ _, fun _ _ _ => rfl⟩
  · obtain ⟨g', cap', rest', W', h1, h2, h3, h4, _⟩ := h.appendRow (P := Tryz.prog) l2 26 26 i0 _ 24 Tryz.underlying26 hi hz0 hz1 hz2 rfl (some ⟨b, o, none⟩) c (.inr ⟨b, o, rfl, hb, hat⟩) hB (by omega) (by unfold maxLen; omega)
    exact ⟨g', cap', rest', W', h1, h2, h3, h4⟩
def grp_ren : Go.Shelf.Ren := ⟨fun | 4 => 74 | n => n, fun | 22 => 26 | 25 => 44 | 3 => 3 | 4 => 4 | 0 => 0 | 9 => 9 | 20 => 20 | n => n, fun | n => n⟩
theorem grpLays : Go.Proofs.Lays8.n4 Tryz.prog grp_ren := {
  mixed := by kernel_rfl
  f4 := ⟨Tryz.f74.name, by decide, Tryz.func74.trans (congrArg some (by kernel_rfl))⟩
  t0 := Tryz.underlying0
  a0 := Tryz.isAgg0
  z0 := Tryz.sizeOf0
  v0 := Tryz.zeroValue0
  t3 := Tryz.underlying3
  a3 := Tryz.isAgg3
  z3 := Tryz.sizeOf3
  v3 := Tryz.zeroValue3
  t4 := Tryz.underlying4
  a4 := Tryz.isAgg4
  z4 := Tryz.sizeOf4
  v4 := Tryz.zeroValue4
  t9 := Tryz.underlying9
  a9 := Tryz.isAgg9
  z9 := Tryz.sizeOf9
  v9 := Tryz.zeroValue9
  t20 := Tryz.underlying20
  a20 := Tryz.isAgg20
  z20 := Tryz.sizeOf20
  v20 := Tryz.zeroValue20
  t22 := Tryz.underlying26
  a22 := Tryz.isAgg26
  z22 := Tryz.sizeOf26
  v22 := Tryz.zeroValue26 }
/-- slices.Grow of nothing -/
theorem growp_any (n : Nat) (hn : 1 ≤ n) (hn2 : n ≤ 100000) (w : World) :
    Calls Tryz.prog 74 #[.slice none 0 0, .int .i64 (n : Int)] w fun e w' => ∃ g cap rest, e = .returned (.slice (some ⟨g, 0, none⟩) 0 cap) ∧ pcE.Own w.heap.size w' g cap [] rest ∧ Below w.heap.size w w' := by
  obtain ⟨i0, hi, hz0, hz1, hz2⟩ := infoPc'
  refine (Go.Proofs.Any8.slices_Grow_grow grpLays i0 _ hi hz0 (by omega) none 0 0 n [] w (Nat.le_refl _) (by omega) (by rw [hz2]; omega) (by omega) (by simp) (fun _ => rfl) (fun a h => by cases h)).mono fun e w' ⟨h1, h2⟩ => ?_
  subst h1 h2
  have hge := grownCap_ge w (0 + n) 0 44
  have hcm : grownCap w (0 + n) 0 44 ≤ maxLen := grownCap_le_maxLen w (0 + n) 0 44 (by unfold maxLen; omega)
  have et : grp_ren.t 25 = 44 := rfl
  rw [et]
  generalize grownCap w (0 + n) 0 44 = G at *
  refine ⟨w.heap.size, G, (Builtin.zeroCells (Value.agg #[.int .i64 0, .string ByteArray.empty]).cells (0 + n - 0) ++ Builtin.zeroCells (Value.agg #[.int .i64 0, .string ByteArray.empty]).cells (G - (0 + n))).toList, rfl, ⟨?_, Nat.le_refl _, Nat.zero_le _, hcm, ?_⟩, ⟨rfl, rfl, rfl, by simp, fun k hk => Below.heap_alloc w.drew _ k hk⟩⟩
  · rw [show w.heap.size = w.drew.heap.size from rfl, heap_alloc_new]
    refine congrArg (fun x => some (Obj.cells x _ (0, 0))) ?_
    apply Array.ext'
    simp [pcE, Rg.El.flat]
  · have hzl : ∀ n, (Builtin.zeroCells (Value.agg #[.int .i64 0, .string ByteArray.empty]).cells n).size = n * 2 := fun n => by rw [size_zeroCells]; rfl
    rw [pcE.flat_nil, List.nil_append, Array.length_toList, Array.size_append, hzl, hzl]
    show G * 2 ≤ _
    omega
/-- what a concatenation has summed up, and has gathered, behind i of the two rows -/
def Gp.cs (n i : Nat) : Nat := if i = 0 then 0 else if i = 1 then n else n + 1
def Gp.cl (l : List Gp.Pc) (x : Gp.Pc) (i : Nat) : List Gp.Pc := if i = 0 then [] else if i = 1 then l else l ++ [x]
theorem Gp.cl_len (l : List Gp.Pc) (x : Gp.Pc) (i : Nat) : (Gp.cl l x i).length = Gp.cs l.length i := by
  unfold Gp.cl Gp.cs
  split
  · rfl
  · split <;> simp
/-- one append of a concatenation -/
theorem catp_step {base g cap i : Nat} {W : World} {l l2 : List Gp.Pc} {x : Gp.Pc} {rest : List Value} (h : pcE.Own base W g cap (Gp.cl l x i) rest) (n M M2 : Nat) (hn : n = l.length) (hM : M = Gp.cs n i) (a : Option Addr) (c : Nat) (hr : ERow pcE W a l2) (hM2 : M2 = l2.length) (h2 : Gp.cl l x i ++ l2 = Gp.cl l x (i + 1)) (hB : base ≤ W.heap.size) (hn2 : n ≤ 1000) (w : World) (hbw : Below base w W) :
    ∃ g' cap' rest' W', (Builtin.append_ #[26, 26] 26 #[.slice (some ⟨g, 0, none⟩) M cap, .slice a M2 c]).run Tryz.prog W = .ok (.slice (some ⟨g', 0, none⟩) (Gp.cs n (i + 1)) cap') W' ∧ Hid (pcE.Own base W' g' cap' (Gp.cl l x (i + 1)) rest') ∧ Below base w W' := by
  subst hn hM hM2
  have e := congrArg List.length h2
  rw [List.length_append, Gp.cl_len, Gp.cl_len] at e
  have hcs : ∀ j, Gp.cs l.length j ≤ l.length + 1 := fun j => by unfold Gp.cs; split <;> (try split) <;> omega
  have := hcs (i + 1)
  obtain ⟨g', cap', rest', W', h1, h3, h4, _⟩ := app_pieces h l2 a c hr hB (by rw [Gp.cl_len]; omega)
  rw [Gp.cl_len, e] at h1
  rw [h2] at h3
  exact ⟨g', cap', rest', W', h1, h3, hbw.trans h4⟩
set_option maxHeartbeats 2000000 in
set_option maxRecDepth 100000 in
theorem concatp_any (l : List Gp.Pc) (n N1 : Nat) (hnl : Hid (n = l.length)) (hN1 : Hid (N1 = n + 1)) (hn : n ≤ 1000) (x : Gp.Pc) (a : Option Addr) (c B g : Nat) (w : World) (hr : Hid (ERow pcE w a l)) (kB : Rg.Bk B [.slice a n c, .slice (some ⟨g, 0, none⟩) 1 1] 26 w) (kg : Hid (Rg.Bk g [.int .i64 x.ch, .string x.data] 44 w)) :
    Calls Tryz.prog 44 #[.slice (some ⟨B, 0, none⟩) 2 2] w fun e w' => ∃ g' cap, e = .returned (.slice (some ⟨g', 0, none⟩) N1 cap) ∧ Hid (ERow pcE w' (some ⟨g', 0, none⟩) (l ++ [x])) ∧ Hid (N1 ≤ cap) ∧ Below w.heap.size w w' ∧ Hid (w.heap.size ≤ g') := by
  have c0 : w.cell? ⟨B, 0, none⟩ = some (.slice a n c) := kB.cell 0
  have c1 : w.cell? ⟨B, 1, none⟩ = some (.slice (some ⟨g, 0, none⟩) 1 1) := kB.cell 1
  have kB' := Rg.hid kB
  have HG : Hid (∀ W, Calls Tryz.prog 74 #[.slice none 0 0, .int .i64 (N1 : Int)] W fun e w' => ∃ g cap rest, e = .returned (.slice (some ⟨g, 0, none⟩) 0 cap) ∧ Hid (pcE.Own W.heap.size w' g cap [] rest) ∧ Below W.heap.size W w') := by
    rw [hN1.out]; exact growp_any (n + 1) (by omega) (by omega)
  have q0 : wrap64 ((n : Int) + 1) = (N1 : Int) := by rw [hN1.out]; unfold wrap64; omega
  have q1 : wrap64 (n : Int) = (n : Int) := by unfold wrap64; omega
  have d0 : decide ((n : Int) < 0) = false := by simp
  have d1 : decide ((N1 : Int) < 0) = false := by simp
  have e0 : Gp.cs n 0 = 0 := rfl
  have e1 : Gp.cs n 1 = n := rfl
  have e2 : Gp.cs n 2 = N1 := hN1.out.symm
  replace e0 := Rg.hid e0; replace e1 := Rg.hid e1; replace e2 := Rg.hid e2
  have hn' := Rg.hid hn
  clear kB hn
  go_enter Tryz.func44, Tryz.ntmps44
  go_wp2
  go_loopw [3, 11] (fun vs vi wr => wr = w ∧ ∃ i : Nat, i ≤ 2 ∧ vi = .int .i64 i ∧ vs = .int .i64 (Gp.cs n i : Nat)) (fun _ vi _ => 2 - (intOf vi).toNat)
  case atStart => exact ⟨rfl, 0, by omega, rfl, rfl⟩
  case round =>
    obtain ⟨hww, i, hi2, rfl, rfl⟩ := hrel
    obtain rfl := hww.symm
    obtain rfl | rfl | rfl : i = 0 ∨ i = 1 ∨ i = 2 := by omega
    · rw [e0.out]
      go_wp2
      go_roundw
      case rel => exact ⟨trivial, 1, by omega, rfl, by simp [e1.out, q1]⟩
      case measure => simp [intOf]
    · rw [e1.out]
      go_wp2
      go_roundw
      case rel => exact ⟨trivial, 2, by omega, rfl, by simp [e2.out, q0]⟩
      case measure => simp [intOf]
    · rw [e2.out]
      go_wp2_with (go_at_call 74; refine (HG.out _).mono ?_; rintro e w2 ⟨G, cap, rest, rfl, hO, b2⟩)
      go_loopw [6, 27] (fun vl vi wx => ∃ (i g' cap' : Nat) (rest' : List Value), i ≤ 2 ∧ vi = .int .i64 i ∧ vl = .slice (some ⟨g', 0, none⟩) (Gp.cs n i) cap' ∧ Hid (pcE.Own w.heap.size wx g' cap' (Gp.cl l x i) rest') ∧ Below w.heap.size w wx) (fun _ vi _ => 2 - (intOf vi).toNat)
      case atStart => exact ⟨0, G, cap, rest, by omega, rfl, by rw [e0.out], hO, b2⟩
      case round =>
        obtain ⟨i, g', cap', rest', hi2, rfl, rfl, hO2, bx⟩ := hrel
        have hr' := hr.out.below bx
        have kg' := kg.out.below bx kg.out.lt
        have kB2 := kB'.out.below bx kB'.out.lt
        have c0' : wr.cell? ⟨B, 0, none⟩ = some (.slice a n c) := kB2.cell 0
        have c1' : wr.cell? ⟨B, 1, none⟩ = some (.slice (some ⟨g, 0, none⟩) 1 1) := kB2.cell 1
        clear kB2
        obtain rfl | rfl | rfl : i = 0 ∨ i = 1 ∨ i = 2 := by omega
        · obtain ⟨g2, cap2, rest2, W2, hap, hO3, b3⟩ := catp_step hO2.out n 0 n hnl.out e0.out.symm a c hr' hnl.out rfl bx.size hn'.out w bx
          replace hap := Rg.hid hap
          rw [e0.out]
          clear hr' kg'
          go_wp2_with (at_builtin; refine Rg.wpList_append_run rfl (.tmp 31) (.tmp 32) 26 rfl _ _ rfl rfl _ _ hap.out ?_)
          go_roundw
          case rel => exact ⟨1, g2, cap2, rest2, by omega, rfl, rfl, hO3, b3⟩
          case measure => simp [intOf]
        · have h1 : ERow pcE wr (some ⟨g, 0, none⟩) [x] := .inr ⟨g, 0, rfl, kg'.lt, fun t u ht => by rw [Nat.zero_add, kg'.cell]; exact ht⟩
          obtain ⟨g2, cap2, rest2, W2, hap, hO3, b3⟩ := catp_step hO2.out n n 1 hnl.out e1.out.symm (some ⟨g, 0, none⟩) 1 h1 rfl rfl bx.size hn'.out w bx
          replace hap := Rg.hid hap
          rw [e1.out]
          clear hr' kg' h1
          go_wp2_with (at_builtin; refine Rg.wpList_append_run rfl (.tmp 31) (.tmp 32) 26 rfl _ _ rfl rfl _ _ hap.out ?_)
          go_roundw
          case rel => exact ⟨2, g2, cap2, rest2, by omega, rfl, rfl, hO3, b3⟩
          case measure => simp [intOf]
        · have hle : Hid (N1 ≤ cap') := by
            have := hO2.out.le
            rw [Gp.cl_len, ← hnl.out, e2.out] at this
            exact this
          have hrow : Hid (ERow pcE wr (some ⟨g', 0, none⟩) (l ++ [x])) := ERow.of hO2.out.toRow
          have hnew : Hid (w.heap.size ≤ g') := hO2.out.new
          rw [e2.out]
          clear hr' kg'
          go_wp2
          go_ret
          exact ⟨g', cap', rfl, hrow, hle, bx, hnew⟩
/-- a row of pieces of one's own, or nothing: the slice a, n, c -/
def PQ (base : Nat) (W : World) (a : Option Addr) (c : Nat) (l : List Gp.Pc) : Prop := l.length ≤ c ∧ (l = [] ∨ ∃ g o C, a = some ⟨g, o, none⟩ ∧ base ≤ g ∧ Rg.Bk g C 44 W ∧ ∀ t u, (pcE.flat l)[t]? = some u → C[o + t]? = some u)
theorem PQ.nil {base : Nat} {W : World} {a : Option Addr} {c : Nat} : PQ base W a c [] := ⟨Nat.zero_le _, .inl rfl⟩
theorem PQ.own {base g cap : Nat} {W : World} {l : List Gp.Pc} {rest : List Value} (h : pcE.Own base W g cap l rest) : PQ base W (some ⟨g, 0, none⟩) cap l := by
  refine ⟨h.le, .inr ⟨g, 0, pcE.flat l ++ rest, rfl, h.new, h.blk, fun t u ht => ?_⟩⟩
  rw [Nat.zero_add, List.getElem?_append_left]; (· exact ht)
  rcases Nat.lt_or_ge t (pcE.flat l).length with c | c
  · exact c
  · rw [List.getElem?_eq_none c] at ht; cases ht
theorem PQ.fr {base b0 eb : Nat} {W W' : World} {a : Option Addr} {c : Nat} {l : List Gp.Pc} {CE : List Value} (h : PQ base W a c l) (hf : Fr b0 eb W W') (k : Rg.Bk eb CE 66 W) : PQ base W' a c l := by
  refine ⟨h.1, ?_⟩
  rcases h.2 with h2 | ⟨g, o, C, h1, h2, h3, h4⟩
  · exact .inl h2
  · refine .inr ⟨g, o, C, h1, h2, hf.bk h3 (fun e => ?_) (by decide), h4⟩
    subst e
    unfold Rg.Bk at k h3
    rw [k] at h3
    cases h3
theorem PQ.below {base : Nat} {W W' : World} {a : Option Addr} {c : Nat} {l : List Gp.Pc} (h : PQ base W a c l) (hb : Below W.heap.size W W') : PQ base W' a c l := by
  refine ⟨h.1, ?_⟩
  rcases h.2 with h2 | ⟨g, o, C, h1, h2, h3, h4⟩
  · exact .inl h2
  · exact .inr ⟨g, o, C, h1, h2, h3.below hb h3.lt, h4⟩
theorem PQ.e {base : Nat} {W : World} {a : Option Addr} {c : Nat} {l : List Gp.Pc} (h : PQ base W a c l) : ERow pcE W a l := by
  rcases h.2 with h2 | ⟨g, o, C, h1, h2, h3, h4⟩
  · exact .inl h2
  · exact .inr ⟨g, o, h1, h3.lt, fun t u ht => by rw [h3.cell]; exact h4 t u ht⟩
theorem eqlp_nil (w : World) (a : Option Addr) (n c n' c' : Nat) : (binOp .eql 26 (.slice a n c) (.slice none n' c')).run Tryz.prog w = .ok (.bool a.isNone) w := Lib.run_eql_slice_nil w _ _ a n c n' c' Tryz.underlying26
set_option maxHeartbeats 1000000 in
set_option maxRecDepth 100000 in
theorem clonep_nil (n c : Nat) (w : World) : Calls Tryz.prog 59 #[.slice none n c] w fun e w' => e = .returned (.slice none 0 0) ∧ w' = w := by
  have q := eqlp_nil
  go_enter Tryz.func59, Tryz.ntmps59
  go_wp2
  go_ret
  exact ⟨rfl, rfl⟩
set_option maxHeartbeats 1000000 in
set_option maxRecDepth 100000 in
theorem clonep_some (ad : Addr) (n c g cap : Nat) (w W' : World) (hap : Hid ((Builtin.append_ #[26, 26] 26 #[.slice (some ⟨w.heap.size, 0, none⟩) 0 0, .slice (some ad) n c]).run Tryz.prog (w.alloc (.cells #[] 44)) = .ok (.slice (some ⟨g, 0, none⟩) n cap) W')) :
    Calls Tryz.prog 59 #[.slice (some ad) n c] w fun e w' => e = .returned (.slice (some ⟨g, 0, none⟩) n cap) ∧ w' = W' := by
  have q := eqlp_nil
  go_enter Tryz.func59, Tryz.ntmps59
  go_wp2_with (at_builtin; refine Rg.wpList_append_run rfl _ _ _ rfl _ _ rfl rfl _ _ hap.out ?_)
  go_ret
  exact ⟨rfl, rfl⟩
/-- slices.Clone of pieces -/
theorem clonep_any (a : Option Addr) (c : Nat) (l : List Gp.Pc) (w : World) (hl : l.length ≤ 100000) (hr : ERow pcE w a l) :
    Calls Tryz.prog 59 #[.slice a l.length c] w fun e w' => ∃ a' c', e = .returned (.slice a' l.length c') ∧ Hid (PQ w.heap.size w' a' c' l) ∧ Below w.heap.size w w' := by
  cases a with
  | none =>
    have e : l = [] := by
      rcases hr with h | ⟨b, o, h, _⟩
      · exact h
      · cases h
    subst e
    exact (clonep_nil _ c w).mono fun e w' ⟨h1, h2⟩ => ⟨none, 0, h1, PQ.nil, by rw [h2]; exact Below.refl _ _⟩
  | some ad =>
    obtain ⟨g', cap', rest', W', h1, h2, h3, _⟩ := app_pieces (ownp_nil w) l (some ad) c (hr.below (Rg.al1 w _)) (by simp) (by simp; omega)
    rw [List.length_nil, Nat.zero_add] at h1
    rw [List.nil_append] at h2
    refine (clonep_some ad l.length c g' cap' w W' h1).mono fun e w' ⟨e1, e2⟩ => ⟨_, _, e1, ?_, ?_⟩
    · rw [e2]; exact PQ.own h2
    · rw [e2]; exact (Rg.al1 w _).trans h3
end Go.Proofs.YtfiffbohhhehkaaGreat

namespace Go.Proofs.YtfiffbohhhehkaaGreat
open Go.RowKit
set_option maxHeartbeats 2000000 in
set_option maxRecDepth 100000 in
theorem sendText_go {Kp : Nat → Prop} {base eb : Nat} {W : World} {d : Gp.Dr} {p : Pl} {q : Bu} {S C : List UInt8} (h : EAt Kp base W eb d p q S C) (x : ByteArray) (X : Wn.W) (N : Int) (xn : Nat) (hxn : Hid (X.l.length = xn)) (Post : Ending → World → Prop) (ln : Nat) (hln : Hid (d.win.l.length = ln))
    (HA : Hid (Calls Tryz.prog 82 #[.agg #[.int .i64 d.win.md, .int .i64 d.win.sz, .int .i64 d.win.bs, .slice p.w ln p.wc], .string x] W fun e w' => ∃ a c, e = .returned (.tuple #[.agg #[.int .i64 X.md, .int .i64 X.sz, .int .i64 X.bs, .slice a xn c], .int .i64 N, .int .i64 0]) ∧ Hid (EAt Kp base w' eb d p q S C) ∧ Hid (Fr base eb W w') ∧ Hid (TRow Kp strE base eb [q.sb, q.cb, .slice p.t d.took.length p.tc] w' a X.l) ∧ Hid (X.l.length ≤ c) ∧ Hid (New W a)))
    (HS : Hid (∀ W1 a c, New W a → EAt Kp base W1 eb { d with win := X } { p with w := a, wc := c } q S C → Fr base eb W W1 → Calls Tryz.prog 83 #[.pointer (some ⟨eb, 0, none⟩), .int .i64 N, .string x] W1 fun e w' => e = .returned (.tuple #[]) ∧ Post (.returned (.tuple #[])) w')) :
    Calls Tryz.prog 60 #[.pointer (some ⟨eb, 0, none⟩), .string x] W Post := by
  have c6 : W.cell? ⟨eb, 6, none⟩ = some (.int .i64 d.win.md) := h.bk.cell 6
  have c7 : W.cell? ⟨eb, 7, none⟩ = some (.int .i64 d.win.sz) := h.bk.cell 7
  have c8 : W.cell? ⟨eb, 8, none⟩ = some (.int .i64 d.win.bs) := h.bk.cell 8
  have c9 : W.cell? ⟨eb, 9, none⟩ = some (.slice p.w ln p.wc) := by rw [← hln.out]; exact h.bk.cell 9
  generalize d.win.md = wm at *
  generalize d.win.sz = ws at *
  generalize d.win.bs = wb at *
  clear h
  go_enter Tryz.func60, Tryz.ntmps60
  go_upto_region 2 with (go_at_call 82; refine HA.out.mono ?_; rintro e w2 ⟨a, c, rfl, h2, f2, hr, hc, hn⟩; have e6 : w2.cell? ⟨eb, 6, none⟩ = some (.int .i64 d.win.md) := h2.out.bk.cell 6; have e7 : w2.cell? ⟨eb, 7, none⟩ = some (.int .i64 d.win.sz) := h2.out.bk.cell 7; have e8 : w2.cell? ⟨eb, 8, none⟩ = some (.int .i64 d.win.bs) := h2.out.bk.cell 8; have e9 : w2.cell? ⟨eb, 9, none⟩ = some (.slice p.w d.win.l.length p.wc) := h2.out.bk.cell 9; have fz := h2.out.bk.thaw)
  have hw := Rg.hid (h2.out.setW X a c hr.out hc.out)
  rw [hxn.out] at hw
  unfold SetW at hw
  generalize World.setCell _ _ _ = w3 at *
  have f3 := Rg.hid (f2.out.trans hw.out.2)
  have h3 := Rg.hid hw.out.1
  have HS1 := Rg.hid (HS.out w3 a c hn.out h3.out f3.out)
  clear e6 e7 e8 e9 fz c6 c7 c8 c9 HA h2 hw hr hc f2 HS h3 f3 hn
  go_wp2_with (go_at_call 83; refine HS1.out.mono ?_; rintro e w4 ⟨rfl, hp⟩)
  go_end0
  exact hp
/-- what sendText leaves -/
def TPost (Kp : Nat → Prop) (base eb : Nat) (W : World) (d : Gp.Dr) (p : Pl) (S C : List UInt8) (e : Ending) (w' : World) : Prop := e = .returned (.tuple #[]) ∧ ∃ a c q', New W a ∧ EAt Kp base w' eb d { p with w := a, wc := c } q' S C ∧ Fr base eb W w'
theorem sendText_any {Kp : Nat → Prop} {base eb : Nat} {W : World} {d : Gp.Dr} {p : Pl} {q : Bu} {S C : List UInt8} (h : EAt Kp base W eb d p q S C) (x : ByteArray) (hb : Gp.base d) (hr : Gp.runs d) (hl : (d.win.l.length : Int) < d.win.sz) (hx : (x.size : Int) ≤ d.size) (hlen : S.length + 4200 ≤ 140737488355328) :
    Calls Tryz.prog 60 #[.pointer (some ⟨eb, 0, none⟩), .string x] W fun e w' => TPost Kp base eb W { d with win := (Wn.put d.win x).1 } p (S ++ Gp.packet { d with win := (Wn.put d.win x).1 } (Wn.put d.win x).2.1 x) C e w' := by
  have hrt := Gp.runs_rt hb hr
  have hput := Wn.put_ok hrt (by omega) x
  have hP := put_anyN d.win p.w p.wc x W ⟨h.win.e, h.wcap⟩
  have hnum := Wn.num_lt hrt d.win.l.length
  obtain ⟨b1, b2, b3, b4, b5, b6, b7, b8, b9, b10, b11, b12, b13, b14, b15⟩ := hb
  obtain ⟨r1, r2, r3, r4, r5, r6, r7, r8⟩ := hr
  rw [hput] at hP ⊢
  refine sendText_go h x { d.win with l := d.win.l ++ [x] } (Wn.num d.win d.win.l.length) _ rfl _ _ rfl ?_ fun W1 a c hn hh f => ?_
  · refine hP.mono fun e w' ⟨a, c, h1, h2, h3, h4⟩ => ⟨a, c, h1, h.below h3, Fr.of h3 h.lt, ?_, h2.cap, ?_⟩
    · rcases h4 with ⟨e1, e2, e3⟩ | h4
      · exfalso
        have := congrArg (fun w : Wn.W => w.l.length) e1
        simp at this
      · exact h.row h2.row h4
    · rcases h4 with ⟨e1, e2, e3⟩ | h4
      · exfalso
        have := congrArg (fun w : Wn.W => w.l.length) e1
        simp at this
      · exact h4
  · refine (sayText_anyP hh _ x hnum.1 (by omega) b2 b6 b7 hx hlen).mono fun e w' hp => ⟨hp.1, rfl, ?_⟩
    obtain ⟨_, ⟨q', h2⟩, h3⟩ := hp
    exact ⟨a, c, q', hn, h2, f.trans h3⟩
end Go.Proofs.YtfiffbohhhehkaaGreat

namespace Go.Proofs.YtfiffbohhhehkaaGreat
open Go.RowKit
/-- rows that lie in no block from m to ahead of n -/
structure NB (m n : Nat) (d : Gp.Dr) (p : Pl) : Prop where
  w : d.win.l = [] ∨ ∃ b o, p.w = some ⟨b, o, none⟩ ∧ (b < m ∨ n ≤ b)
  q : d.queue = [] ∨ ∃ b o, p.q = some ⟨b, o, none⟩ ∧ (b < m ∨ n ≤ b)
  a : d.ahead = [] ∨ ∃ b o, p.a = some ⟨b, o, none⟩ ∧ (b < m ∨ n ≤ b)
theorem TRow.nb {Kp : Nat → Prop} {α : Type} {E : Rg.El α} {base eb n : Nat} {vs : List Value} {W : World} {a : Option Addr} {l : List α} (h : TRow Kp E base eb vs W a l) : l = [] ∨ ∃ b o, a = some ⟨b, o, none⟩ ∧ (b < W.heap.size ∨ n ≤ b) := by
  rcases h with h | ⟨b, o, h1, h2, _⟩
  · exact .inl h
  · exact .inr ⟨b, o, h1, .inl h2⟩
theorem EAt.nb {Kp : Nat → Prop} {base eb : Nat} {W : World} {d : Gp.Dr} {p : Pl} {q : Bu} {S C : List UInt8} (h : EAt Kp base W eb d p q S C) (n : Nat) : NB W.heap.size n d p := ⟨h.win.nb, h.queue.nb, h.ahead.nb⟩
theorem TRow.store {Kp : Nat → Prop} {α : Type} {E : Rg.El α} {base eb m n g i : Nat} {vs : List Value} {W : World} {a : Option Addr} {l : List α} {v : Value} (h : TRow Kp E base eb vs W a l) (hn : l = [] ∨ ∃ b o, a = some ⟨b, o, none⟩ ∧ (b < m ∨ n ≤ b)) (h1 : m ≤ g) (h2 : g < n) : TRow Kp E base eb vs (W.setCell ⟨g, i, none⟩ v) a l := by
  rcases h with h | ⟨b, o, e1, e2, e3, e4⟩
  · exact .inl h
  · rcases hn with hn | ⟨b', o', k1, k2⟩
    · exact .inl hn
    · rw [e1] at k1
      cases k1
      exact .inr ⟨b, o, e1, by simpa [World.setCell] using e2, e3.same (Below.heap_setCell _ _ _ _ (by show b ≠ g; omega)), e4⟩
/-- a store into a row of pieces of one's own -/
theorem EAt.other {Kp : Nat → Prop} {base eb m n g i : Nat} {W : World} {d : Gp.Dr} {p : Pl} {q : Bu} {S C : List UInt8} {CG : List Value} (h : EAt Kp base W eb d p q S C) (hn : NB m n d p) (k : Rg.Bk g CG 44 W) (h1 : m ≤ g) (h2 : g < n) (v : Value) : EAt Kp base (W.setCell ⟨g, i, none⟩ v) eb d p q S C := by
  have hne : eb ≠ g := fun e => by
    have k2 := h.bk
    unfold Rg.Bk at k k2
    rw [e, k] at k2
    cases k2
  refine ⟨h.bk.other hne v, h.new, h.win.store hn.w h1 h2, h.wcap, h.ahead.store hn.a h1 h2, h.queue.store hn.q h1 h2, ?_, h.sa, h.said.set k (by decide) v, h.ca, h.came.set k (by decide) v, h.apart⟩
  refine ⟨h.took.1, ?_⟩
  rcases h.took.2 with hx | ⟨g', cap, cur, e1, hb, hgg, rest⟩
  · exact .inl hx
  · refine .inr ⟨g', cap, cur, e1, hb, ?_, rest⟩
    rw [Below.heap_setCell _ _ _ _ (fun e => ?_)]
    · exact hgg
    · rw [e] at hgg
      unfold Rg.Bk at k
      rw [hgg] at k
      cases k
theorem Fr.other {base eb g i : Nat} {W W' : World} (h : Fr base eb W W') (hg : W.heap.size ≤ g) (hb : base ≤ g) (v : Value) : Fr base eb W (W'.setCell ⟨g, i, none⟩ v) := by
  refine ⟨h.bel.setCell (p := ⟨g, i, none⟩) hb _, fun k o hk hne ho => ?_⟩
  have hlt := (Array.getElem?_eq_some_iff.1 hk).1
  rw [Below.heap_setCell _ _ _ _ (by show k ≠ g; omega)]
  exact h.oth k o hk hne ho
/-- what a round of sendWaiting finds: dm is the drive as the document has it then -/
structure FI (Kp : Nat → Prop) (base eb : Nat) (d0 : Gp.Dr) (S C : List UInt8) (W : World) (w2n : Nat) (wr : World) (dm : Gp.Dr) (p : Pl) (q : Bu) (Si : List UInt8) (f : Nat) (qa : Option Addr) (qc : Nat) : Prop where
  at_ : EAt Kp base wr eb { dm with queue := d0.queue } p q Si C
  nb : NB W.heap.size w2n { dm with queue := d0.queue } p
  fr : Fr base eb W wr
  pq : PQ W.heap.size wr qa qc dm.queue
  pn : dm.queue = [] ∨ ∃ g o, qa = some ⟨g, o, none⟩ ∧ g < w2n
  sz : w2n ≤ wr.heap.size
  math : ∃ out, Si = S ++ out ∧ Gp.fillN f dm out = Gp.fill d0
  rt : Gp.right dm
  ph : dm.phase = 2
  fuel : 8 ≤ f + dm.win.l.length
  len : Si.length ≤ S.length + 4200 * dm.win.l.length
theorem FI.runs {Kp : Nat → Prop} {base eb : Nat} {d0 : Gp.Dr} {S C : List UInt8} {W : World} {w2n : Nat} {wr : World} {dm : Gp.Dr} {p : Pl} {q : Bu} {Si : List UInt8} {f : Nat} {qa : Option Addr} {qc : Nat} (h : FI Kp base eb d0 S C W w2n wr dm p q Si f qa qc) : Gp.runs dm := by
  have hp := h.ph
  rcases h.rt.2 with ⟨h, _⟩ | ⟨_, h⟩ | h | h | h
  · omega
  · exact h
  all_goals omega
theorem FI.n7 {Kp : Nat → Prop} {base eb : Nat} {d0 : Gp.Dr} {S C : List UInt8} {W : World} {w2n : Nat} {wr : World} {dm : Gp.Dr} {p : Pl} {q : Bu} {Si : List UInt8} {f : Nat} {qa : Option Addr} {qc : Nat} (h : FI Kp base eb d0 S C W w2n wr dm p q Si f qa qc) : dm.win.l.length ≤ 7 := by
  obtain ⟨r1, r2, r3, r4, r5, r6, r7, r8⟩ := h.runs
  have := h.rt.1.2.2.2.2.1
  omega
/-- the end: what is there is what the document has -/
theorem FI.stop {Kp : Nat → Prop} {base eb : Nat} {d0 : Gp.Dr} {S C : List UInt8} {W : World} {w2n : Nat} {wr : World} {dm : Gp.Dr} {p : Pl} {q : Bu} {Si : List UInt8} {f : Nat} {qa : Option Addr} {qc : Nat} (h : FI Kp base eb d0 S C W w2n wr dm p q Si f qa qc) (hs : dm.queue = [] ∨ ¬ (dm.win.l.length : Int) < dm.win.sz) : dm = (Gp.fill d0).1 ∧ Si = S ++ (Gp.fill d0).2 := by
  obtain ⟨out, e1, e2⟩ := h.math
  have hf := h.fuel
  have := h.n7
  obtain ⟨f', rfl⟩ : ∃ f', f = f' + 1 := ⟨f - 1, by omega⟩
  rw [Gp.fillN_stop hs] at e2
  rw [← e2]
  exact ⟨rfl, e1⟩
/-- the text that goes -/
def Gp.goes (dm : Gp.Dr) (x : Gp.Pc) : ByteArray := x.data.extract 0 (min x.data.size dm.size.toNat)
/-- a text went: what is there then, but for the queue -/
theorem FI.step {Kp : Nat → Prop} {base eb : Nat} {d0 : Gp.Dr} {S C : List UInt8} {W : World} {w2n : Nat} {wr : World} {dm : Gp.Dr} {p : Pl} {q : Bu} {Si : List UInt8} {f : Nat} {qa : Option Addr} {qc : Nat} (h : FI Kp base eb d0 S C W w2n wr dm p q Si f qa qc) {x : Gp.Pc} {l : List Gp.Pc} (hq : dm.queue = x :: l) (hl : (dm.win.l.length : Int) < dm.win.sz)
    {w3 : World} {a : Option Addr} {c : Nat} {q3 : Bu} (hn : New wr a) (h3 : EAt Kp base w3 eb { dm with queue := d0.queue, win := (Wn.put dm.win (Gp.goes dm x)).1 } { p with w := a, wc := c } q3 (Si ++ Gp.packet { dm with queue := d0.queue, win := (Wn.put dm.win (Gp.goes dm x)).1 } (Wn.put dm.win (Gp.goes dm x)).2.1 (Gp.goes dm x)) C) (f3 : Fr base eb wr w3)
    {w4 : World} {qa' : Option Addr} {qc' : Nat} (h4 : EAt Kp base w4 eb { dm with queue := d0.queue, win := (Wn.put dm.win (Gp.goes dm x)).1 } { p with w := a, wc := c } q3 (Si ++ Gp.packet { dm with queue := d0.queue, win := (Wn.put dm.win (Gp.goes dm x)).1 } (Wn.put dm.win (Gp.goes dm x)).2.1 (Gp.goes dm x)) C) (f4 : Fr base eb W w4) (hpq : PQ W.heap.size w4 qa' qc' (Gp.cutQ dm.queue (min x.data.size dm.size.toNat))) (hpn : Gp.cutQ dm.queue (min x.data.size dm.size.toNat) = [] ∨ ∃ g o, qa' = some ⟨g, o, none⟩ ∧ g < w2n) (hs4 : w2n ≤ w4.heap.size) :
    ∃ f', FI Kp base eb d0 S C W w2n w4 (Gp.fill1 dm x).1 { p with w := a, wc := c } q3 (Si ++ (Gp.fill1 dm x).2) f' qa' qc' := by
  have _ := h3
  have _ := f3
  have hrun := h.runs
  have hb := h.rt.1
  have hrt := Gp.runs_rt hb hrun
  have hput := Wn.put_ok hrt (by omega) (Gp.goes dm x)
  have hf := h.fuel
  have h7 := h.n7
  obtain ⟨f', rfl⟩ : ∃ f', f = f' + 1 := ⟨f - 1, by omega⟩
  obtain ⟨fb, fr⟩ := Gp.right_fill1 hb hrun hq hl
  obtain ⟨out, e1, e2⟩ := h.math
  have hn7 := Wn.num_lt hrt dm.win.l.length
  have hz := Gp.size_pos hb.2.1
  have hplen : (Gp.fill1 dm x).2.length ≤ 4200 := by
    show (Gp.packet { dm with win := (Wn.put dm.win (Gp.goes dm x)).1 } (Wn.put dm.win (Gp.goes dm x)).2.1 (Gp.goes dm x)).length ≤ 4200
    rw [hput]
    refine packet_len hn7.1 ?_ hb.2.1 ?_
    · show Wn.num dm.win dm.win.l.length ≤ 7
      have := hrun.2.2.2.1
      omega
    · show ((x.data.extract 0 (min x.data.size dm.size.toNat)).size : Int) ≤ dm.size
      rw [Gp.ex_size _ _ (Nat.min_le_left _ _)]
      omega
  have hwl : (Gp.fill1 dm x).1.win.l.length = dm.win.l.length + 1 := by
    show (Wn.put dm.win (Gp.goes dm x)).1.l.length = _
    rw [hput]
    simp
  refine ⟨f', h4, ⟨.inr ?_, h.nb.q, h.nb.a⟩, f4, hpq, hpn, hs4, ⟨out ++ (Gp.fill1 dm x).2, by rw [e1, List.append_assoc], ?_⟩, ⟨fb, .inr (.inl ⟨h.ph, fr⟩)⟩, h.ph, by rw [hwl]; omega, ?_⟩
  · rcases h4.win with e | ⟨b, o, e, _, _, _⟩
    · exfalso
      have e' : (Wn.put dm.win (Gp.goes dm x)).1.l = [] := e
      rw [hput] at e'
      simp at e'
    · refine ⟨b, o, e, .inr ?_⟩
      have := hn b o e
      have := h.sz
      omega
  · rw [← e2, Gp.fillN_go hq h.ph hl]
  · rw [List.length_append, hwl]
    have := h.len
    omega
theorem PQ.cons {base : Nat} {W : World} {a : Option Addr} {c : Nat} {x : Gp.Pc} {l : List Gp.Pc} (h : PQ base W a c (x :: l)) : ∃ g o C, a = some ⟨g, o, none⟩ ∧ base ≤ g ∧ Rg.Bk g C 44 W ∧ C[o]? = some (.int .i64 x.ch) ∧ C[o + 1]? = some (.string x.data) ∧ (∀ t u, (pcE.flat l)[t]? = some u → C[o + 2 + t]? = some u) ∧ l.length + 1 ≤ c := by
  rcases h.2 with h2 | ⟨g, o, C, h1, h2, h3, h4⟩
  · cases h2
  · have e : pcE.flat (x :: l) = [.int .i64 x.ch, .string x.data] ++ pcE.flat l := pcE.flat_cons x l
    rw [e] at h4
    refine ⟨g, o, C, h1, h2, h3, h4 0 _ rfl, h4 1 _ rfl, fun t u ht => ?_, h.1⟩
    have := h4 (2 + t) u (by rw [List.getElem?_append_right (by simp)]; simpa using ht)
    rw [← Nat.add_assoc] at this
    exact this
/-- the first piece is gone -/
theorem PQ.tail {base g o c : Nat} {W : World} {C : List Value} {l : List Gp.Pc} (hb : base ≤ g) (k : Rg.Bk g C 44 W) (h : ∀ t u, (pcE.flat l)[t]? = some u → C[o + 2 + t]? = some u) (hc : l.length + 1 ≤ c) (oo : Nat) (ho : oo = o + 2 ∨ l = []) : PQ base W (some ⟨g, oo, none⟩) (c - 1) l := by
  refine ⟨by omega, ?_⟩
  rcases ho with rfl | ho
  · exact .inr ⟨g, o + 2, C, rfl, hb, k, h⟩
  · exact .inl ho
/-- the first piece is shorter -/
theorem PQ.head {base g o c i : Nat} {W : World} {C : List Value} {x : Gp.Pc} {l : List Gp.Pc} (hb : base ≤ g) (k : Rg.Bk g C 44 W) (h0 : C[o]? = some (.int .i64 x.ch)) (h1 : C[o + 1]? = some (.string x.data)) (h : ∀ t u, (pcE.flat l)[t]? = some u → C[o + 2 + t]? = some u) (hc : l.length + 1 ≤ c) (s : ByteArray) (hi : i = o + 1) : PQ base (W.setCell ⟨g, i, none⟩ (.string s)) (some ⟨g, o, none⟩) c (⟨x.ch, s⟩ :: l) := by
  subst hi
  refine ⟨by simpa using hc, .inr ⟨g, o, C.set (o + 1) (.string s), rfl, hb, k.set (o + 1) _, fun t u ht => ?_⟩⟩
  have e : pcE.flat ((⟨x.ch, s⟩ : Gp.Pc) :: l) = .int .i64 x.ch :: .string s :: pcE.flat l := pcE.flat_cons _ l
  rw [e] at ht
  have hlt : o + 1 < C.length := by
    rcases Nat.lt_or_ge (o + 1) C.length with c | c
    · exact c
    · rw [List.getElem?_eq_none c] at h1; cases h1
  match t, ht with
  | 0, ht => rw [List.getElem?_set_ne (by omega)]; simp at ht; subst ht; exact h0
  | 1, ht => rw [List.getElem?_set_self hlt]; simp at ht; subst ht; rfl
  | t + 2, ht =>
    rw [List.getElem?_set_ne (by omega)]
    have := h t u (by simpa using ht)
    rw [show o + (t + 2) = o + 2 + t by omega]
    exact this
set_option maxHeartbeats 1000000 in
set_option maxRecDepth 100000 in
theorem sendWaiting_no (eb : Nat) (ph : Int) (W : World) (c1 : W.cell? ⟨eb, 1, none⟩ = some (.int .i64 ph)) (h : (ph != 2) = true) :
    Calls Tryz.prog 33 #[.pointer (some ⟨eb, 0, none⟩)] W fun e w' => e = .returned (.tuple #[]) ∧ w' = W := by
  go_enter Tryz.func33, Tryz.ntmps33
  go_wp2
  exact bodyPost_ret (v := .tuple #[]) (by simp [results, Tryz.results33, go_sem]) rfl ⟨rfl, rfl⟩
/-- how many texts the window has, as its cell tells -/
def winLen (eb : Nat) (wr : World) : Nat := match wr.cell? ⟨eb, 9, none⟩ with
  | some (.slice _ n _) => n
  | _ => 0
theorem EAt.winLen {Kp : Nat → Prop} {base eb : Nat} {W : World} {d : Gp.Dr} {p : Pl} {q : Bu} {S C : List UInt8} (h : EAt Kp base W eb d p q S C) : Go.Proofs.YtfiffbohhhehkaaGreat.winLen eb W = d.win.l.length := by
  have e : W.cell? ⟨eb, 9, none⟩ = some (.slice p.w d.win.l.length p.wc) := h.bk.cell 9
  unfold Go.Proofs.YtfiffbohhhehkaaGreat.winLen
  rw [e]
/-- what the loop of sendWaiting keeps -/
def FR (Kp : Nat → Prop) (base eb : Nat) (d0 : Gp.Dr) (S C : List UInt8) (W : World) (w2n : Nat) (wr : World) (v : Value) (m : Nat) : Prop := ∃ dm p q Si f qa qc, v = .slice qa m qc ∧ dm.queue.length = m ∧ FI Kp base eb d0 S C W w2n wr dm p q Si f qa qc
theorem FI.drewN {Kp : Nat → Prop} {base eb : Nat} {d0 : Gp.Dr} {S C : List UInt8} {W : World} {w2n : Nat} {wr : World} {dm : Gp.Dr} {p : Pl} {q : Bu} {Si : List UInt8} {f : Nat} {qa : Option Addr} {qc : Nat} (h : FI Kp base eb d0 S C W w2n wr dm p q Si f qa qc) (n : Nat) : FI Kp base eb d0 S C W w2n (wr.drewN n) dm p q Si f qa qc :=
  ⟨h.at_.drewN n, h.nb, ⟨Rg.drewN h.fr.bel n, fun k o hk hne ho => h.fr.oth k o hk hne ho⟩, h.pq.below (Rg.drewN (Below.refl _ _) n), h.pn, h.sz, h.math, h.rt, h.ph, h.fuel, h.len⟩
set_option maxHeartbeats 4000000 in
set_option maxRecDepth 100000 in
theorem sendWaiting_go {Kp : Nat → Prop} {base eb : Nat} {W : World} {d : Gp.Dr} {p : Pl} {q : Bu} {S C : List UInt8} (h : EAt Kp base W eb d p q S C) (hph : d.phase = 2) (Post : Ending → World → Prop) (qn : Nat) (hqn : Hid (d.queue.length = qn))
    (HC : Hid (Calls Tryz.prog 59 #[.slice p.q qn p.qc] W fun e w' => ∃ v, e = .returned v ∧ Hid (FR Kp base eb d S C W w'.heap.size w' v qn)))
    (HS : Hid (∀ w2n W1 qa qc dm p1 q1 Si f x l, FI Kp base eb d S C W w2n W1 dm p1 q1 Si f qa qc → dm.queue = x :: l → (dm.win.l.length : Int) < dm.win.sz → Calls Tryz.prog 60 #[.pointer (some ⟨eb, 0, none⟩), .string (Gp.goes dm x)] W1 fun e w' => TPost Kp base eb W1 { dm with queue := d.queue, win := (Wn.put dm.win (Gp.goes dm x)).1 } p1 (Si ++ Gp.packet { dm with queue := d.queue, win := (Wn.put dm.win (Gp.goes dm x)).1 } (Wn.put dm.win (Gp.goes dm x)).2.1 (Gp.goes dm x)) C e w'))
    (HP : Hid (∀ w2n W1 qa qc m dm p1 q1 Si f, dm.queue.length = m → FI Kp base eb d S C W w2n W1 dm p1 q1 Si f qa qc → (dm.queue = [] ∨ ¬ (dm.win.l.length : Int) < dm.win.sz) → ∃ x, W1.cell? ⟨eb, 14, none⟩ = some x ∧ (∀ i, W1.frozen? ⟨eb, i, none⟩ = false) ∧ Post (.returned (.tuple #[])) (W1.setCell ⟨eb, 14, none⟩ (.slice qa m qc)))) :
    Calls Tryz.prog 33 #[.pointer (some ⟨eb, 0, none⟩)] W Post := by
  have c1 : W.cell? ⟨eb, 1, none⟩ = some (.int .i64 2) := by rw [← hph]; exact h.bk.cell 1
  have c14 : W.cell? ⟨eb, 14, none⟩ = some (.slice p.q qn p.qc) := by rw [← hqn.out]; exact h.bk.cell 14
  have hbase := Rg.hid h.lt
  clear h hqn
  go_enter Tryz.func33, Tryz.ntmps33
  go_upto_region 2 with (go_at_call 59; refine HC.out.mono ?_; rintro e w2 ⟨v, rfl, hv⟩)
  clear c1 c14 HC
  obtain ⟨w2n, hw2n⟩ : ∃ w2n, w2n = w2.heap.size := ⟨_, rfl⟩
  rw [← hw2n] at hv
  clear hw2n
  go_loopw [2] (fun v wr => ∃ m : Nat, Hid (FR Kp base eb d S C W w2n wr v m)) (fun _ wr => 8 - winLen eb wr)
  case atStart => exact ⟨qn, hv⟩
  case round =>
    obtain ⟨m, hrel⟩ := hrel
    clear hv
    obtain ⟨dm, p2, q2, Si, f, qa, qc, rfl, hm, hfi⟩ := hrel.out
    clear hrel
    have hwlr := Rg.hid hfi.at_.winLen
    replace hm := Rg.hid hm
    replace hfi := Rg.hid hfi
    by_cases hm0 : m = 0
    · subst hm0
      have hq0 : dm.queue = [] := List.eq_nil_of_length_eq_zero hm.out
      clear HS
      go_wp2
      go_quiet (fail)
      replace hfi := Rg.hid (hfi.out.drewN nq)
      generalize World.drewN _ _ = w3 at *
      obtain ⟨x14, c14, fz, hp⟩ := HP.out w2n w3 qa qc 0 dm p2 q2 Si f hm.out hfi.out (.inl hq0)
      clear HP hq0 hm
      go_wp2
      go_end0
      exact hp
    · obtain ⟨x, l, hq⟩ : ∃ x l, dm.queue = x :: l := by
        cases hq : dm.queue with
        | nil => rw [hq] at hm; exact absurd hm.out.symm hm0
        | cons x l => exact ⟨x, l, rfl⟩
      replace hq := Rg.hid hq
      obtain ⟨wl, hwl⟩ : ∃ wl, dm.win.l.length = wl := ⟨_, rfl⟩
      obtain ⟨wz, hwz⟩ : ∃ wz, dm.win.sz = wz := ⟨_, rfl⟩
      have c9 : wr.cell? ⟨eb, 9, none⟩ = some (.slice p2.w wl p2.wc) := by rw [← hwl]; exact hfi.out.at_.bk.cell 9
      have c7 : wr.cell? ⟨eb, 7, none⟩ = some (.int .i64 wz) := by rw [← hwz]; exact hfi.out.at_.bk.cell 7
      have d1 : decide (0 < m) = true := by simp; omega
      by_cases hfull : (wl : Int) < wz
      · have d2 : decide ((wl : Int) < wz) = true := by simpa using hfull
        have hfull2 : Hid ((dm.win.l.length : Int) < dm.win.sz) := by show _ < _; rw [hwl, hwz]; exact hfull
        replace hwl := Rg.hid hwl
        replace hwz := Rg.hid hwz
        clear HP hfull
        go_wp2
        go_quiet (fail)
        replace hfi := Rg.hid (hfi.out.drewN nq)
        generalize World.drewN _ _ = w3 at *
        clear c9 c7 d1 d2
        have hpq := hfi.out.pq
        have hpn := hfi.out.pn
        rw [hq.out] at hpq hpn
        obtain ⟨g, o, CG, e1, g1, kG, y0, y1, y2, y3⟩ := hpq.cons
        have gn : g < w2n := by
          rcases hpn with h | ⟨g', o', e2, h⟩
          · cases h
          · rw [e1] at e2; cases e2; exact h
        subst e1
        have k1 : w3.cell? ⟨g, o + 1, none⟩ = some (.string x.data) := by rw [kG.cell]; exact y1
        have c4 : w3.cell? ⟨eb, 4, none⟩ = some (.int .i64 dm.size) := hfi.out.at_.bk.cell 4
        have iz : (0 : Int) < (m : Int) := by omega
        have hne : Hid (g ≠ eb) := by
          show g ≠ eb
          intro e
          have k2 := hfi.out.at_.bk
          unfold Rg.Bk at kG k2
          rw [← e, kG] at k2
          cases k2
        have HT := Rg.hid (HS.out w2n w3 _ _ dm p2 q2 Si f x l hfi.out hq.out hfull2.out)
        have hgo : Gp.goes dm x = x.data.extract 0 (min x.data.size dm.size.toNat) := rfl
        obtain ⟨K, hK⟩ : ∃ K, K = min x.data.size dm.size.toNat := ⟨_, rfl⟩
        have hzp := Gp.size_pos hfi.out.rt.1.2.1
        have hmin : min (x.data.size : Int) dm.size = (K : Int) := by omega
        have kz0 : (0 : Int) ≤ (K : Int) := by omega
        have kz1 : (K : Int) ≤ (x.data.size : Int) := by omega
        have kz2 : K ≤ x.data.size := by omega
        rw [← hK] at hgo
        rw [hgo] at HT
        replace hgo := Rg.hid hgo
        replace hK := Rg.hid hK
        replace kG := Rg.hid kG
        replace y0 := Rg.hid y0
        replace y1 := Rg.hid y1
        replace y2 := Rg.hid y2
        replace g1 := Rg.hid g1
        replace gn := Rg.hid gn
        replace y3 := Rg.hid y3
        obtain ⟨D, hD⟩ : ∃ D, D = x.data := ⟨_, rfl⟩
        obtain ⟨z, hz⟩ : ∃ z, z = dm.size := ⟨_, rfl⟩
        rw [← hD] at k1 hmin kz1 kz2 HT
        rw [← hz] at c4 hmin
        replace hD := Rg.hid hD
        replace hz := Rg.hid hz
        clear HS hzp hpq hpn
        go_upto_region 6 with (go_at_call 60; refine HT.out.mono ?_; rintro e w4 ⟨rfl, a4, b4, q4, hn4, h4, f4⟩)
        rw [hD.out, ← hgo.out] at h4
        replace h4 := Rg.hid h4
        replace f4 := Rg.hid f4
        replace hn4 := Rg.hid hn4
        have kG4 := Rg.hid (f4.out.bk kG.out hne.out (by decide))
        have f5 := Rg.hid (hfi.out.fr.trans f4.out)
        have hm1 : Hid (m = l.length + 1) := by show _ = _; rw [← hm.out, hq.out]; rfl
        have hsz := Rg.hid (Nat.le_trans hfi.out.sz f4.out.bel.size)
        have hln := Rg.hid (show (Gp.fill1 dm x).1.win.l.length = dm.win.l.length + 1 by
          show (Wn.put dm.win (Gp.goes dm x)).1.l.length = _
          rw [Wn.put_ok (Gp.runs_rt hfi.out.rt.1 hfi.out.runs) (by have := hfull2.out; omega)]
          simp)
        have hn7 := Rg.hid hfi.out.n7
        clear k1 c4 HT hmin
        by_cases hlt : K < D.size
        · have d3 : decide ((K : Int) < (D.size : Int)) = true := by simp; omega
          have hcut : Hid (Gp.cutQ dm.queue (min x.data.size dm.size.toNat) = ⟨x.ch, D.extract K D.size⟩ :: l) := by
            show _ = _
            rw [← hK.out, hq.out, hD.out]
            show (if K = x.data.size then l else _) = _
            rw [if_neg (by rw [← hD.out]; omega)]
          have k1 : w4.cell? ⟨g, o + 1, none⟩ = some (.string D) := by rw [hD.out, kG4.out.cell]; exact y1.out
          have fzG : w4.frozen? ⟨g, o + 1, none⟩ = false := kG4.out.thaw (o + 1)
          have hpq5 := Rg.hid (PQ.head (i := o + 1) g1.out kG4.out y0.out y1.out y2.out y3.out (D.extract K D.size) rfl)
          have hnb : NB W.heap.size w2n { dm with queue := d.queue, win := (Wn.put dm.win (Gp.goes dm x)).1 } { p2 with w := a4, wc := b4 } := by
            refine ⟨?_, hfi.out.nb.q, hfi.out.nb.a⟩
            rcases h4.out.win with e | ⟨b, o, e, _, _, _⟩
            · exact .inl e
            · refine .inr ⟨b, o, e, .inr ?_⟩
              have := hn4.out b o e
              have := hfi.out.sz
              omega
          have h5 := Rg.hid (h4.out.other (i := o + 1) hnb kG4.out g1.out gn.out (.string (D.extract K D.size)))
          have f6 := Rg.hid (f5.out.other (i := o + 1) g1.out (Nat.le_trans hbase.out g1.out) (.string (D.extract K D.size)))
          obtain ⟨f7, hF⟩ := hfi.out.step hq.out hfull2.out hn4.out h4.out f4.out (w4 := w4.setCell ⟨g, o + 1, none⟩ (.string (D.extract K D.size))) (qa' := some ⟨g, o, none⟩) (qc' := qc) h5.out f6.out (by rw [hcut.out]; exact hpq5.out) (.inr ⟨g, o, rfl, gn.out⟩) (by simpa [World.setCell] using hsz.out)
          replace hF := Rg.hid hF
          have hmF : Hid ((Gp.fill1 dm x).1.queue.length = m) := by
            show (Gp.cutQ dm.queue (min x.data.size dm.size.toNat)).length = m
            rw [hcut.out, hm1.out]; rfl
          have hwl5 : Hid (winLen eb (w4.setCell ⟨g, o + 1, none⟩ (.string (D.extract K D.size))) = dm.win.l.length + 1) := by show _ = _; rw [← hln.out]; exact hF.out.at_.winLen
          clear h5 f6 hnb hpq5 kG4 h4 f4 hn4 hcut f5 hsz kG y0 y1 y2 y3
          go_wp2
          generalize World.setCell _ _ _ = w5 at *
          go_roundw
          case rel => exact ⟨m, ⟨_, _, _, _, f7, _, _, rfl, hmF.out, hF.out⟩⟩
          case measure =>
            show 8 - winLen eb w5 < 8 - winLen eb wr
            rw [hwl5.out, hwlr.out]
            have := hn7.out
            show 8 - (dm.win.l.length + 1) < 8 - dm.win.l.length
            omega
        · have d3 : decide ((K : Int) < (D.size : Int)) = false := by simp; omega
          have hcut : Hid (Gp.cutQ dm.queue (min x.data.size dm.size.toNat) = l) := by
            show _ = _
            rw [← hK.out, hq.out]
            show (if K = x.data.size then l else _) = _
            rw [if_pos (by rw [← hD.out]; omega)]
          have hmF : Hid ((Gp.fill1 dm x).1.queue.length = l.length) := by
            show (Gp.cutQ dm.queue (min x.data.size dm.size.toNat)).length = l.length
            rw [hcut.out]
          have key : ∀ oo, (oo = o + 2 ∨ l = []) → ∃ f7, FI Kp base eb d S C W w2n w4 (Gp.fill1 dm x).1 { p2 with w := a4, wc := b4 } q4 (Si ++ (Gp.fill1 dm x).2) f7 (some ⟨g, oo, none⟩) (qc - 1) := fun oo ho => hfi.out.step hq.out hfull2.out hn4.out h4.out f4.out h4.out f5.out (by rw [hcut.out]; exact PQ.tail g1.out kG4.out y2.out y3.out oo ho) (.inr ⟨g, oo, rfl, gn.out⟩) hsz.out
          obtain ⟨M, hM⟩ : ∃ M, M = l.length := ⟨_, rfl⟩
          rw [← hM] at hm1 hmF
          have hle : M + 1 ≤ qc := by rw [hM]; exact y3.out
          obtain ⟨m', hmm⟩ : ∃ m', m' = m := ⟨_, rfl⟩
          have hwl5 : Hid (winLen eb w4 = dm.win.l.length + 1) := by
            obtain ⟨f7, hF⟩ := key (o + 2) (.inl rfl)
            show _ = _
            rw [← hln.out]; exact hF.at_.winLen
          replace key := Rg.hid key
          clear kG4 h4 f4 hn4 hcut f5 hsz kG y0 y1 y2 y3
          have hm2 := hm1.out
          subst hm2
          clear hmm
          by_cases hc1 : qc = 1
          · subst hc1
            have hM0 : M = 0 := by omega
            subst hM0
            have hl0 : l = [] := List.eq_nil_of_length_eq_zero hM.symm
            obtain ⟨f7, hF⟩ := key.out o (.inr hl0)
            replace hF := Rg.hid hF
            clear key
            replace hM := Rg.hid hM
            go_wp2
            refine ⟨⟨0, ⟨_, _, _, _, f7, _, _, rfl, hmF.out, hF.out⟩⟩, ?_⟩
            rw [hwl5.out, hwlr.out]
            have := hn7.out
            show 8 - (dm.win.l.length + 1) < 8 - dm.win.l.length
            omega
          · obtain ⟨f7, hF⟩ := key.out (o + 2) (.inl rfl)
            replace hF := Rg.hid hF
            clear key
            replace hM := Rg.hid hM
            have q3 : ¬ qc = 1 := hc1
            have q4 : (1 : Int) ≤ (qc : Int) := by omega
            go_wp2
            refine ⟨⟨M, ⟨_, _, _, _, f7, _, _, rfl, hmF.out, hF.out⟩⟩, ?_⟩
            rw [hwl5.out, hwlr.out]
            have := hn7.out
            show 8 - (dm.win.l.length + 1) < 8 - dm.win.l.length
            omega
      · have d2 : decide ((wl : Int) < wz) = false := by simpa using hfull
        have hfull2 : Hid (¬ (dm.win.l.length : Int) < dm.win.sz) := by show ¬ _ < _; rw [hwl, hwz]; exact hfull
        replace hwl := Rg.hid hwl
        replace hwz := Rg.hid hwz
        clear HS
        go_wp2
        go_quiet (fail)
        replace hfi := Rg.hid (hfi.out.drewN nq)
        generalize World.drewN _ _ = w3 at *
        obtain ⟨x14, c14, fz, hp⟩ := HP.out w2n w3 qa qc m dm p2 q2 Si f hm.out hfi.out (.inr hfull2.out)
        clear HP hm hq hfull2 c9 c7
        go_wp2
        go_end0
        exact hp
theorem PQ.trow {Kp : Nat → Prop} {base eb n : Nat} {W : World} {d : Gp.Dr} {p : Pl} {q : Bu} {S C : List UInt8} {qa : Option Addr} {qc : Nat} {l : List Gp.Pc} (h : PQ n W qa qc l) (hlt : eb < n) (he : EAt Kp base W eb d p q S C) : TRow Kp pcE base eb [q.sb, q.cb, .slice p.t d.took.length p.tc] W qa l := by
  rcases h.2 with h2 | ⟨g, o, CG, h1, h2, h3, h4⟩
  · exact .inl h2
  · refine .inr ⟨g, o, h1, h3.lt, fun t u ht => by rw [h3.cell]; exact h4 t u ht, .inr ⟨Nat.lt_of_lt_of_le hlt h2, fun v hm hg => ?_⟩⟩
    · simp only [List.mem_cons, List.not_mem_nil, or_false] at hm
      rcases hm with rfl | rfl | rfl
      · exact he.said.ne h3 (by decide) hg
      · exact he.came.ne h3 (by decide) hg
      · rcases he.took.2 with ⟨e, _⟩ | ⟨g', cap, cur, e, _, hgg, _⟩
        · rw [e] at hg; simp [Value.ownBlock] at hg
        · rw [e] at hg
          simp [Value.ownBlock] at hg
          subst hg
          unfold Rg.Bk at h3
          rw [h3] at hgg
          cases hgg
theorem fill_not {d : Gp.Dr} (h : d.phase ≠ 2) : Gp.fill d = (d, []) := by
  unfold Gp.fill Gp.fillN
  cases d.queue with
  | nil => rfl
  | cons p q => dsimp only; rw [if_neg (fun x => h x.1)]
theorem sendWaiting_any {Kp : Nat → Prop} {base eb : Nat} {W : World} {d : Gp.Dr} {p : Pl} {q : Bu} {S C : List UInt8} (h : EAt Kp base W eb d p q S C) (hr : Gp.right d) (hql : d.queue.length ≤ 100000) (hlen : S.length + 40000 ≤ 140737488355328) :
    Calls Tryz.prog 33 #[.pointer (some ⟨eb, 0, none⟩)] W fun e w' => EPost Kp base eb W (Gp.fill d).1 (S ++ (Gp.fill d).2) C e w' := by
  by_cases hph : d.phase = 2
  · refine sendWaiting_go h hph _ _ rfl ?_ ?_ ?_
    · refine (clonep_any p.q p.qc d.queue W hql h.queue.e).mono fun e w' ⟨a', c', h1, h2, h3⟩ => ⟨_, h1, d, p, q, S, 8, a', c', rfl, rfl, h.below h3, h.nb _, Fr.of h3 h.lt, h2.out, ?_, Nat.le_refl _, ⟨[], by rw [List.append_nil], rfl⟩, hr, hph, by omega, by omega⟩
      rcases h2.out.2 with e | ⟨g, o, CG, e1, _, k, _⟩
      · exact .inl e
      · exact .inr ⟨g, o, e1, k.lt⟩
    · intro w2n W1 qa qc dm p1 q1 Si f x l hfi hq hl
      have hrun := hfi.runs
      have hb := hfi.rt.1
      have hz := Gp.size_pos hb.2.1
      have h7 := hfi.n7
      have hL := hfi.len
      have hb' : Gp.base { dm with queue := d.queue } := by
        obtain ⟨b1, b2, b3, b4, b5, b6, b7, b8, b9, b10, b11, b12, b13, b14, _⟩ := hb
        exact ⟨b1, b2, b3, b4, b5, b6, b7, b8, b9, b10, b11, b12, b13, b14, hr.1.2.2.2.2.2.2.2.2.2.2.2.2.2.2⟩
      refine sendText_any hfi.at_ (Gp.goes dm x) hb' hrun hl ?_ (by omega)
      show ((x.data.extract 0 (min x.data.size dm.size.toNat)).size : Int) ≤ dm.size
      rw [Gp.ex_size _ _ (Nat.min_le_left _ _)]
      omega
    · intro w2n W1 qa qc m dm p1 q1 Si f hm hfi hs
      obtain ⟨e1, e2⟩ := hfi.stop hs
      refine ⟨_, hfi.at_.bk.cell 14, hfi.at_.bk.thaw, rfl, ?_, hfi.fr.trans (Fr.set hfi.at_.new 14 _)⟩
      rw [← e1, ← e2]
      refine ⟨{ p1 with q := qa, qc := qc }, q1, hfi.at_.put 14 (.slice qa m qc) dm { p1 with q := qa, qc := qc } ?_ rfl ⟨rfl, rfl⟩ hfi.at_.win hfi.at_.wcap hfi.at_.ahead (hfi.pq.trow h.bk.lt hfi.at_)⟩
      rw [← hm]
      rfl
  · rw [fill_not hph]
    exact EPost.id h (sendWaiting_no eb d.phase W (h.bk.cell 1) (by simp [hph]))
end Go.Proofs.YtfiffbohhhehkaaGreat
