/-
  Walks of layers 15 and 16: rows of pieces: Grow, Clone, Concat; a row of pieces of one's own. Walks of layer 16: sendText.
-/
import Derived.Test.YtlclfkogbfigbaaCuAE
import Derived.Test.YtlclfkogbfigbaaCuAL
import Derived.Test.YtlclfkogbfigbaaCuAR
namespace Go.Proofs.Ytlclfkogbfigbaa
open Go.RowKit
theorem infoPc : (Try.prog.info? 42).map (fun i => (i.zero, i.size, i.bytes)) = some (some (.agg #[.int .i64 0, .string ByteArray.empty]), 2, 24) := by kernel_rfl
theorem infoPc' : ∃ i0, Try.prog.info? 42 = some i0 ∧ i0.zero = some (.agg #[.int .i64 0, .string ByteArray.empty]) ∧ i0.size = 2 ∧ i0.bytes = 24 := by
  have := infoPc
  cases h : Try.prog.info? 42 with
  | none => rw [h] at this; cases this
  | some i => rw [h] at this; simp only [Option.map_some, Option.some.injEq, Prod.mk.injEq] at this; exact ⟨i, rfl, this.1, this.2.1, this.2.2⟩
theorem ownp_nil (W : World) : pcE.Own W.heap.size (W.alloc (.cells #[] 42)) W.heap.size 0 [] [] := ⟨Rg.Bk.new (C := []) rfl, Nat.le_refl _, Nat.le_refl _, Nat.zero_le _, by simp⟩
/-- append of texts to a row of one's own -/
theorem app_pieces {base g cap : Nat} {W : World} {l : List Gp.Pc} {rest : List Value} (h : pcE.Own base W g cap l rest) (l2 : List Gp.Pc) (a : Option Addr) (c : Nat) (hr : ERow pcE W a l2) (hB : base ≤ W.heap.size) (hn : l.length + l2.length ≤ 1000000) :
    ∃ g' cap' rest' W', (Builtin.append_ #[29, 29] 29 #[.slice (some ⟨g, 0, none⟩) l.length cap, .slice a l2.length c]).run Try.prog W = .ok (.slice (some ⟨g', 0, none⟩) (l.length + l2.length) cap') W' ∧ pcE.Own base W' g' cap' (l ++ l2) rest' ∧ Below base W W' ∧ (∀ k, k < W.heap.size → k ≠ g → W'.heap[k]? = W.heap[k]?) := by
  obtain ⟨i0, hi, hz0, hz1, hz2⟩ := infoPc'
  rcases hr with rfl | ⟨b, o, rfl, hb, hat⟩
  · exact ⟨g, cap, rest, W, app_nil Try.underlying29 hi g l.length cap h.le a c W, by rw [List.append_nil]; exact h, Below.refl _ _, fun _ _ _ => rfl⟩
  · obtain ⟨g', cap', rest', W', h1, h2, h3, h4, _⟩ := h.appendRow (P := Try.prog) l2 29 29 i0 _ 24 Try.underlying29 hi hz0 hz1 hz2 rfl (some ⟨b, o, none⟩) c (.inr ⟨b, o, rfl, hb, hat⟩) hB (by omega) (by unfold maxLen; omega)
    exact ⟨g', cap', rest', W', h1, h2, h3, h4⟩
def grp_ren : Go.Shelf.Ren := ⟨fun | 4 => 33 | n => n, fun | 22 => 29 | 25 => 42 | 3 => 3 | 4 => 4 | 0 => 0 | 9 => 9 | 20 => 20 | n => n, fun | n => n⟩
theorem grpLays : Go.Proofs.Lays8.n4 Try.prog grp_ren := {
  mixed := by kernel_rfl
  f4 := ⟨Try.f33.name, by decide, Try.func33.trans (congrArg some (by kernel_rfl))⟩
  t0 := Try.underlying0
  a0 := Try.isAgg0
  z0 := Try.sizeOf0
  v0 := Try.zeroValue0
  t3 := Try.underlying3
  a3 := Try.isAgg3
  z3 := Try.sizeOf3
  v3 := Try.zeroValue3
  t4 := Try.underlying4
  a4 := Try.isAgg4
  z4 := Try.sizeOf4
  v4 := Try.zeroValue4
  t9 := Try.underlying9
  a9 := Try.isAgg9
  z9 := Try.sizeOf9
  v9 := Try.zeroValue9
  t20 := Try.underlying20
  a20 := Try.isAgg20
  z20 := Try.sizeOf20
  v20 := Try.zeroValue20
  t22 := Try.underlying29
  a22 := Try.isAgg29
  z22 := Try.sizeOf29
  v22 := Try.zeroValue29 }
/-- slices.Grow of nothing -/
theorem growp_any (n : Nat) (hn : 1 ≤ n) (hn2 : n ≤ 100000) (w : World) :
    Calls Try.prog 33 #[.slice none 0 0, .int .i64 (n : Int)] w fun e w' => ∃ g cap rest, e = .returned (.slice (some ⟨g, 0, none⟩) 0 cap) ∧ pcE.Own w.heap.size w' g cap [] rest ∧ Below w.heap.size w w' := by
  obtain ⟨i0, hi, hz0, hz1, hz2⟩ := infoPc'
  refine (Go.Proofs.Any8.slices_Grow_grow grpLays i0 _ hi hz0 (by omega) none 0 0 n [] w (Nat.le_refl _) (by omega) (by rw [hz2]; omega) (by omega) (by simp) (fun _ => rfl) (fun a h => by cases h)).mono fun e w' ⟨h1, h2⟩ => ?_
  subst h1 h2
  have hge := grownCap_ge w (0 + n) 0 42
  have hcm : grownCap w (0 + n) 0 42 ≤ maxLen := grownCap_le_maxLen w (0 + n) 0 42 (by unfold maxLen; omega)
  have et : grp_ren.t 25 = 42 := rfl
  rw [et]
  generalize grownCap w (0 + n) 0 42 = G at *
  refine ⟨w.heap.size, G, (Builtin.zeroCells (Value.agg #[.int .i64 0, .string ByteArray.empty]).cells (0 + n - 0) ++ Builtin.zeroCells (Value.agg #[.int .i64 0, .string ByteArray.empty]).cells (G - (0 + n))).toList, rfl, ⟨?_, Nat.le_refl _, Nat.zero_le _, hcm, ?_⟩, ⟨rfl, rfl, rfl, by simp, fun k hk => Below.heap_alloc w.drew _ k hk⟩⟩
  · rw [show w.heap.size = w.drew.heap.size from rfl, heap_alloc_new]
    refine congrArg (fun x => some (Obj.cells x _ (0, 0))) ?_
    apply Array.ext'
    simp [pcE, Rg.El.flat]
  · have hzl : ∀ n, (Builtin.zeroCells (Value.agg #[.int .i64 0, .string ByteArray.empty]).cells n).size = n * 2 := fun n => by rw [size_zeroCells]; rfl
    rw [pcE.flat_nil, List.nil_append, Array.length_toList, Array.size_append, hzl, hzl]
    show G * 2 ≤ _
    omega
/-- what a concatenation has summed up, and has gathered, behind i of the two rows -/
def Gp.cs (n i : Nat) : Nat := if i = 0 then 0 else if i = 1 then n else n + 1
def Gp.cl (l : List Gp.Pc) (x : Gp.Pc) (i : Nat) : List Gp.Pc := if i = 0 then [] else if i = 1 then l else l ++ [x]
theorem Gp.cl_len (l : List Gp.Pc) (x : Gp.Pc) (i : Nat) : (Gp.cl l x i).length = Gp.cs l.length i := by
  unfold Gp.cl Gp.cs
  split
  · rfl
  · split <;> simp
/-- one append of a concatenation -/
theorem catp_step {base g cap i : Nat} {W : World} {l l2 : List Gp.Pc} {x : Gp.Pc} {rest : List Value} (h : pcE.Own base W g cap (Gp.cl l x i) rest) (n M M2 : Nat) (hn : n = l.length) (hM : M = Gp.cs n i) (a : Option Addr) (c : Nat) (hr : ERow pcE W a l2) (hM2 : M2 = l2.length) (h2 : Gp.cl l x i ++ l2 = Gp.cl l x (i + 1)) (hB : base ≤ W.heap.size) (hn2 : n ≤ 1000) (w : World) (hbw : Below base w W) :
    ∃ g' cap' rest' W', (Builtin.append_ #[29, 29] 29 #[.slice (some ⟨g, 0, none⟩) M cap, .slice a M2 c]).run Try.prog W = .ok (.slice (some ⟨g', 0, none⟩) (Gp.cs n (i + 1)) cap') W' ∧ Hid (pcE.Own base W' g' cap' (Gp.cl l x (i + 1)) rest') ∧ Below base w W' := by
  subst hn hM hM2
  have e := congrArg List.length h2
  rw [List.length_append, Gp.cl_len, Gp.cl_len] at e
  have hcs : ∀ j, Gp.cs l.length j ≤ l.length + 1 := fun j => by unfold Gp.cs; split <;> (try split) <;> omega
  have := hcs (i + 1)
  obtain ⟨g', cap', rest', W', h1, h3, h4, _⟩ := app_pieces h l2 a c hr hB (by rw [Gp.cl_len]; omega)
  rw [Gp.cl_len, e] at h1
  rw [h2] at h3
  exact ⟨g', cap', rest', W', h1, h3, hbw.trans h4⟩
set_option maxHeartbeats 2000000 in
set_option maxRecDepth 100000 in
theorem concatp_any (l : List Gp.Pc) (n N1 : Nat) (hnl : Hid (n = l.length)) (hN1 : Hid (N1 = n + 1)) (hn : n ≤ 1000) (x : Gp.Pc) (a : Option Addr) (c B g : Nat) (w : World) (hr : Hid (ERow pcE w a l)) (kB : Rg.Bk B [.slice a n c, .slice (some ⟨g, 0, none⟩) 1 1] 29 w) (kg : Hid (Rg.Bk g [.int .i64 x.ch, .string x.data] 42 w)) :
    Calls Try.prog 20 #[.slice (some ⟨B, 0, none⟩) 2 2] w fun e w' => ∃ g' cap, e = .returned (.slice (some ⟨g', 0, none⟩) N1 cap) ∧ Hid (ERow pcE w' (some ⟨g', 0, none⟩) (l ++ [x])) ∧ Hid (N1 ≤ cap) ∧ Below w.heap.size w w' ∧ Hid (w.heap.size ≤ g') := by
  have c0 : w.cell? ⟨B, 0, none⟩ = some (.slice a n c) := kB.cell 0
  have c1 : w.cell? ⟨B, 1, none⟩ = some (.slice (some ⟨g, 0, none⟩) 1 1) := kB.cell 1
  have kB' := Rg.hid kB
  have HG : Hid (∀ W, Calls Try.prog 33 #[.slice none 0 0, .int .i64 (N1 : Int)] W fun e w' => ∃ g cap rest, e = .returned (.slice (some ⟨g, 0, none⟩) 0 cap) ∧ Hid (pcE.Own W.heap.size w' g cap [] rest) ∧ Below W.heap.size W w') := by
    rw [hN1.out]; exact growp_any (n + 1) (by omega) (by omega)
  have q0 : wrap64 ((n : Int) + 1) = (N1 : Int) := by rw [hN1.out]; unfold wrap64; omega
  have q1 : wrap64 (n : Int) = (n : Int) := by unfold wrap64; omega
  have d0 : decide ((n : Int) < 0) = false := by simp
  have d1 : decide ((N1 : Int) < 0) = false := by simp
  have e0 : Gp.cs n 0 = 0 := rfl
  have e1 : Gp.cs n 1 = n := rfl
  have e2 : Gp.cs n 2 = N1 := hN1.out.symm
  replace e0 := Rg.hid e0; replace e1 := Rg.hid e1; replace e2 := Rg.hid e2
  have hn' := Rg.hid hn
  clear kB hn
  go_enter Try.func20, Try.ntmps20
  go_wp2
  go_loopw [3, 11] (fun vs vi wr => wr = w ∧ ∃ i : Nat, i ≤ 2 ∧ vi = .int .i64 i ∧ vs = .int .i64 (Gp.cs n i : Nat)) (fun _ vi _ => 2 - (intOf vi).toNat)
  case atStart => exact ⟨rfl, 0, by omega, rfl, rfl⟩
  case round =>
    obtain ⟨hww, i, hi2, rfl, rfl⟩ := hrel
    obtain rfl := hww.symm
    obtain rfl | rfl | rfl : i = 0 ∨ i = 1 ∨ i = 2 := by omega
    · rw [e0.out]
      go_wp2
      go_roundw
      case rel => exact ⟨trivial, 1, by omega, rfl, by simp [e1.out, q1]⟩
      case measure => simp [intOf]
    · rw [e1.out]
      go_wp2
      go_roundw
      case rel => exact ⟨trivial, 2, by omega, rfl, by simp [e2.out, q0]⟩
      case measure => simp [intOf]
    · rw [e2.out]
      go_wp2_with (go_at_call 33; refine (HG.out _).mono ?_; rintro e w2 ⟨G, cap, rest, rfl, hO, b2⟩)
      go_loopw [6, 27] (fun vl vi wx => ∃ (i g' cap' : Nat) (rest' : List Value), i ≤ 2 ∧ vi = .int .i64 i ∧ vl = .slice (some ⟨g', 0, none⟩) (Gp.cs n i) cap' ∧ Hid (pcE.Own w.heap.size wx g' cap' (Gp.cl l x i) rest') ∧ Below w.heap.size w wx) (fun _ vi _ => 2 - (intOf vi).toNat)
      case atStart => exact ⟨0, G, cap, rest, by omega, rfl, by rw [e0.out], hO, b2⟩
      case round =>
        obtain ⟨i, g', cap', rest', hi2, rfl, rfl, hO2, bx⟩ := hrel
        have hr' := hr.out.below bx
        have kg' := kg.out.below bx kg.out.lt
        have kB2 := kB'.out.below bx kB'.out.lt
        have c0' : wr.cell? ⟨B, 0, none⟩ = some (.slice a n c) := kB2.cell 0
        have c1' : wr.cell? ⟨B, 1, none⟩ = some (.slice (some ⟨g, 0, none⟩) 1 1) := kB2.cell 1
        clear kB2
        obtain rfl | rfl | rfl : i = 0 ∨ i = 1 ∨ i = 2 := by omega
        · obtain ⟨g2, cap2, rest2, W2, hap, hO3, b3⟩ := catp_step hO2.out n 0 n hnl.out e0.out.symm a c hr' hnl.out rfl bx.size hn'.out w bx
          replace hap := Rg.hid hap
          rw [e0.out]
          clear hr' kg'
          go_wp2_with (at_builtin; refine Rg.wpList_append_run rfl (.tmp 31) (.tmp 32) 29 rfl _ _ rfl rfl _ _ hap.out ?_)
          go_roundw
          case rel => exact ⟨1, g2, cap2, rest2, by omega, rfl, rfl, hO3, b3⟩
          case measure => simp [intOf]
        · have h1 : ERow pcE wr (some ⟨g, 0, none⟩) [x] := .inr ⟨g, 0, rfl, kg'.lt, fun t u ht => by rw [Nat.zero_add, kg'.cell]; exact ht⟩
          obtain ⟨g2, cap2, rest2, W2, hap, hO3, b3⟩ := catp_step hO2.out n n 1 hnl.out e1.out.symm (some ⟨g, 0, none⟩) 1 h1 rfl rfl bx.size hn'.out w bx
          replace hap := Rg.hid hap
          rw [e1.out]
          clear hr' kg' h1
          go_wp2_with (at_builtin; refine Rg.wpList_append_run rfl (.tmp 31) (.tmp 32) 29 rfl _ _ rfl rfl _ _ hap.out ?_)
          go_roundw
          case rel => exact ⟨2, g2, cap2, rest2, by omega, rfl, rfl, hO3, b3⟩
          case measure => simp [intOf]
        · have hle : Hid (N1 ≤ cap') := by
            have := hO2.out.le
            rw [Gp.cl_len, ← hnl.out, e2.out] at this
            exact this
          have hrow : Hid (ERow pcE wr (some ⟨g', 0, none⟩) (l ++ [x])) := ERow.of hO2.out.toRow
          have hnew : Hid (w.heap.size ≤ g') := hO2.out.new
          rw [e2.out]
          clear hr' kg'
          go_wp2
          go_ret
          exact ⟨g', cap', rfl, hrow, hle, bx, hnew⟩
/-- a row of pieces of one's own, or nothing: the slice a, n, c -/
def PQ (base : Nat) (W : World) (a : Option Addr) (c : Nat) (l : List Gp.Pc) : Prop := l.length ≤ c ∧ (l = [] ∨ ∃ g o C, a = some ⟨g, o, none⟩ ∧ base ≤ g ∧ Rg.Bk g C 42 W ∧ ∀ t u, (pcE.flat l)[t]? = some u → C[o + t]? = some u)
theorem PQ.nil {base : Nat} {W : World} {a : Option Addr} {c : Nat} : PQ base W a c [] := ⟨Nat.zero_le _, .inl rfl⟩
theorem PQ.own {base g cap : Nat} {W : World} {l : List Gp.Pc} {rest : List Value} (h : pcE.Own base W g cap l rest) : PQ base W (some ⟨g, 0, none⟩) cap l := by
  refine ⟨h.le, .inr ⟨g, 0, pcE.flat l ++ rest, rfl, h.new, h.blk, fun t u ht => ?_⟩⟩
  rw [Nat.zero_add, List.getElem?_append_left]; (· exact ht)
  rcases Nat.lt_or_ge t (pcE.flat l).length with c | c
  · exact c
  · rw [List.getElem?_eq_none c] at ht; cases ht
theorem PQ.below {base : Nat} {W W' : World} {a : Option Addr} {c : Nat} {l : List Gp.Pc} (h : PQ base W a c l) (hb : Below W.heap.size W W') : PQ base W' a c l := by
  refine ⟨h.1, ?_⟩
  rcases h.2 with h2 | ⟨g, o, C, h1, h2, h3, h4⟩
  · exact .inl h2
  · exact .inr ⟨g, o, C, h1, h2, h3.below hb h3.lt, h4⟩
theorem PQ.e {base : Nat} {W : World} {a : Option Addr} {c : Nat} {l : List Gp.Pc} (h : PQ base W a c l) : ERow pcE W a l := by
  rcases h.2 with h2 | ⟨g, o, C, h1, h2, h3, h4⟩
  · exact .inl h2
  · exact .inr ⟨g, o, h1, h3.lt, fun t u ht => by rw [h3.cell]; exact h4 t u ht⟩
theorem eqlp_nil (w : World) (a : Option Addr) (n c n' c' : Nat) : (binOp .eql 29 (.slice a n c) (.slice none n' c')).run Try.prog w = .ok (.bool a.isNone) w := Lib.run_eql_slice_nil w _ _ a n c n' c' Try.underlying29
set_option maxHeartbeats 1000000 in
set_option maxRecDepth 100000 in
theorem clonep_nil (n c : Nat) (w : World) : Calls Try.prog 29 #[.slice none n c] w fun e w' => e = .returned (.slice none 0 0) ∧ w' = w := by
  have q := eqlp_nil
  go_enter Try.func29, Try.ntmps29
  go_wp2
  go_ret
  exact ⟨rfl, rfl⟩
set_option maxHeartbeats 1000000 in
set_option maxRecDepth 100000 in
theorem clonep_some (ad : Addr) (n c g cap : Nat) (w W' : World) (hap : Hid ((Builtin.append_ #[29, 29] 29 #[.slice (some ⟨w.heap.size, 0, none⟩) 0 0, .slice (some ad) n c]).run Try.prog (w.alloc (.cells #[] 42)) = .ok (.slice (some ⟨g, 0, none⟩) n cap) W')) :
    Calls Try.prog 29 #[.slice (some ad) n c] w fun e w' => e = .returned (.slice (some ⟨g, 0, none⟩) n cap) ∧ w' = W' := by
  have q := eqlp_nil
  go_enter Try.func29, Try.ntmps29
  go_wp2_with (at_builtin; refine Rg.wpList_append_run rfl _ _ _ rfl _ _ rfl rfl _ _ hap.out ?_)
  go_ret
  exact ⟨rfl, rfl⟩
/-- slices.Clone of pieces -/
theorem clonep_any (a : Option Addr) (c : Nat) (l : List Gp.Pc) (w : World) (hl : l.length ≤ 100000) (hr : ERow pcE w a l) :
    Calls Try.prog 29 #[.slice a l.length c] w fun e w' => ∃ a' c', e = .returned (.slice a' l.length c') ∧ Hid (PQ w.heap.size w' a' c' l) ∧ Below w.heap.size w w' := by
  cases a with
  | none =>
    have e : l = [] := by
      rcases hr with h | ⟨b, o, h, _⟩
      · exact h
      · cases h
    subst e
    exact (clonep_nil _ c w).mono fun e w' ⟨h1, h2⟩ => ⟨none, 0, h1, PQ.nil, by rw [h2]; exact Below.refl _ _⟩
  | some ad =>
    obtain ⟨g', cap', rest', W', h1, h2, h3, _⟩ := app_pieces (ownp_nil w) l (some ad) c (hr.below (Rg.al1 w _)) (by simp) (by simp; omega)
    rw [List.length_nil, Nat.zero_add] at h1
    rw [List.nil_append] at h2
    refine (clonep_some ad l.length c g' cap' w W' h1).mono fun e w' ⟨e1, e2⟩ => ⟨_, _, e1, ?_, ?_⟩
    · rw [e2]; exact PQ.own h2
    · rw [e2]; exact (Rg.al1 w _).trans h3
theorem PQ.cons {base : Nat} {W : World} {a : Option Addr} {c : Nat} {x : Gp.Pc} {l : List Gp.Pc} (h : PQ base W a c (x :: l)) : ∃ g o C, a = some ⟨g, o, none⟩ ∧ base ≤ g ∧ Rg.Bk g C 42 W ∧ C[o]? = some (.int .i64 x.ch) ∧ C[o + 1]? = some (.string x.data) ∧ (∀ t u, (pcE.flat l)[t]? = some u → C[o + 2 + t]? = some u) ∧ l.length + 1 ≤ c := by
  rcases h.2 with h2 | ⟨g, o, C, h1, h2, h3, h4⟩
  · cases h2
  · have e : pcE.flat (x :: l) = [.int .i64 x.ch, .string x.data] ++ pcE.flat l := pcE.flat_cons x l
    rw [e] at h4
    refine ⟨g, o, C, h1, h2, h3, h4 0 _ rfl, h4 1 _ rfl, fun t u ht => ?_, h.1⟩
    have := h4 (2 + t) u (by rw [List.getElem?_append_right (by simp)]; simpa using ht)
    rw [← Nat.add_assoc] at this
    exact this
/-- the first piece is gone -/
theorem PQ.tail {base g o c : Nat} {W : World} {C : List Value} {l : List Gp.Pc} (hb : base ≤ g) (k : Rg.Bk g C 42 W) (h : ∀ t u, (pcE.flat l)[t]? = some u → C[o + 2 + t]? = some u) (hc : l.length + 1 ≤ c) (oo : Nat) (ho : oo = o + 2 ∨ l = []) : PQ base W (some ⟨g, oo, none⟩) (c - 1) l := by
  refine ⟨by omega, ?_⟩
  rcases ho with rfl | ho
  · exact .inr ⟨g, o + 2, C, rfl, hb, k, h⟩
  · exact .inl ho
/-- the first piece is shorter -/
theorem PQ.head {base g o c i : Nat} {W : World} {C : List Value} {x : Gp.Pc} {l : List Gp.Pc} (hb : base ≤ g) (k : Rg.Bk g C 42 W) (h0 : C[o]? = some (.int .i64 x.ch)) (h1 : C[o + 1]? = some (.string x.data)) (h : ∀ t u, (pcE.flat l)[t]? = some u → C[o + 2 + t]? = some u) (hc : l.length + 1 ≤ c) (s : ByteArray) (hi : i = o + 1) : PQ base (W.setCell ⟨g, i, none⟩ (.string s)) (some ⟨g, o, none⟩) c (⟨x.ch, s⟩ :: l) := by
  subst hi
  refine ⟨by simpa using hc, .inr ⟨g, o, C.set (o + 1) (.string s), rfl, hb, k.set (o + 1) _, fun t u ht => ?_⟩⟩
  have e : pcE.flat ((⟨x.ch, s⟩ : Gp.Pc) :: l) = .int .i64 x.ch :: .string s :: pcE.flat l := pcE.flat_cons _ l
  rw [e] at ht
  have hlt : o + 1 < C.length := by
    rcases Nat.lt_or_ge (o + 1) C.length with c | c
    · exact c
    · rw [List.getElem?_eq_none c] at h1; cases h1
  match t, ht with
  | 0, ht => rw [List.getElem?_set_ne (by omega)]; simp at ht; subst ht; exact h0
  | 1, ht => rw [List.getElem?_set_self hlt]; simp at ht; subst ht; rfl
  | t + 2, ht =>
    rw [List.getElem?_set_ne (by omega)]
    have := h t u (by simpa using ht)
    rw [show o + (t + 2) = o + 2 + t by omega]
    exact this
end Go.Proofs.Ytlclfkogbfigbaa

namespace Go.Proofs.Ytlclfkogbfigbaa
open Go.RowKit
theorem Fr.setI {eb : Nat} (W : World) (m s b : Int) (v : Value) : Fr eb eb W (SetI W eb m s b v) :=
  (((Fr.set (Nat.le_refl _) 6 _).trans (Fr.set (Nat.le_refl _) 7 _)).trans (Fr.set (Nat.le_refl _) 8 _)).trans (Fr.set (Nat.le_refl _) 9 _)
set_option maxHeartbeats 2000000 in
set_option maxRecDepth 100000 in
theorem isendText_go {Kp : Nat → Prop} {W : World} {eb : Nat} {d : Gp.Dr} {p : Pl} {q : Qv} {S : List UInt8} {C : List Gp.Pc} (h : IAt Kp W eb d p q S C) (x : ByteArray) (X : Wn.W) (N : Int) (xn : Nat) (hxn : Hid (X.l.length = xn)) (Post : Ending → World → Prop) (ln : Nat) (hln : Hid (d.win.l.length = ln))
    (HA : Hid (Calls Try.prog 44 #[.agg #[.int .i64 d.win.md, .int .i64 d.win.sz, .int .i64 d.win.bs, .slice p.w ln p.wc], .string x] W fun e w' => ∃ a c, e = .returned (.tuple #[.agg #[.int .i64 X.md, .int .i64 X.sz, .int .i64 X.bs, .slice a xn c], .int .i64 N, .int .i64 0]) ∧ Hid (IAt Kp w' eb d p q S C) ∧ Hid (Fr eb eb W w') ∧ Hid (TRow Kp strE eb eb (ivs d p q) w' a X.l) ∧ Hid (X.l.length ≤ c) ∧ Hid (New W a)))
    (HS : Hid (∀ W1 a c, New W a → IAt Kp W1 eb { d with win := X } { p with w := a, wc := c } q S C → Fr eb eb W W1 → Calls Try.prog 45 #[.pointer (some ⟨eb, 0, none⟩), .int .i64 N, .string x] W1 fun e w' => e = .returned (.tuple #[]) ∧ Post (.returned (.tuple #[])) w')) :
    Calls Try.prog 30 #[.pointer (some ⟨eb, 0, none⟩), .string x] W Post := by
  have c6 : W.cell? ⟨eb, 6, none⟩ = some (.int .i64 d.win.md) := h.bk.cell 6
  have c7 : W.cell? ⟨eb, 7, none⟩ = some (.int .i64 d.win.sz) := h.bk.cell 7
  have c8 : W.cell? ⟨eb, 8, none⟩ = some (.int .i64 d.win.bs) := h.bk.cell 8
  have c9 : W.cell? ⟨eb, 9, none⟩ = some (.slice p.w ln p.wc) := by rw [← hln.out]; exact h.bk.cell 9
  generalize d.win.md = wm at *
  generalize d.win.sz = ws at *
  generalize d.win.bs = wb at *
  clear h
  go_enter Try.func30, Try.ntmps30
  go_upto_region 2 with (go_at_call 44; refine HA.out.mono ?_; rintro e w2 ⟨a, c, rfl, h2, f2, hr, hc, hn⟩; have e6 : w2.cell? ⟨eb, 6, none⟩ = some (.int .i64 d.win.md) := h2.out.bk.cell 6; have e7 : w2.cell? ⟨eb, 7, none⟩ = some (.int .i64 d.win.sz) := h2.out.bk.cell 7; have e8 : w2.cell? ⟨eb, 8, none⟩ = some (.int .i64 d.win.bs) := h2.out.bk.cell 8; have e9 : w2.cell? ⟨eb, 9, none⟩ = some (.slice p.w d.win.l.length p.wc) := h2.out.bk.cell 9; have fz := h2.out.bk.thaw)
  have hf2 := Rg.hid (f2.out.trans (Fr.setI w2 X.md X.sz X.bs (.slice a xn c)))
  have hw := Rg.hid (h2.out.setW X a c hr.out hc.out)
  rw [hxn.out] at hw
  unfold SetI at hw hf2
  generalize World.setCell _ _ _ = w3 at *
  have f3 := hf2
  have h3 := Rg.hid hw.out.1
  have HS1 := Rg.hid (HS.out w3 a c hn.out h3.out f3.out)
  clear e6 e7 e8 e9 fz c6 c7 c8 c9 HA h2 hw hr hc f2 HS h3 f3 hn
  go_wp2_with (go_at_call 45; refine HS1.out.mono ?_; rintro e w4 ⟨rfl, hp⟩)
  go_end0
  exact hp
/-- what sendText leaves -/
def ITPost (Kp : Nat → Prop) (eb : Nat) (W : World) (d : Gp.Dr) (p : Pl) (ag : Option Nat) (cv : Value) (S : List UInt8) (C : List Gp.Pc) (e : Ending) (w' : World) : Prop := e = .returned (.tuple #[]) ∧ ∃ a c s' sb', New W a ∧ IAt Kp w' eb d { p with w := a, wc := c } ⟨s', sb', cv, ag⟩ S C ∧ Fr eb eb W w'
theorem isendText_any {Kp : Nat → Prop} {W : World} {eb : Nat} {d : Gp.Dr} {p : Pl} {q : Qv} {S : List UInt8} {C : List Gp.Pc} (h : IAt Kp W eb d p q S C) (x : ByteArray) (hb : Ip.base d) (hr : Ip.runs d) (hl : (d.win.l.length : Int) < d.win.sz) (hx : Ip.okText d.size x) (hlen : S.length + 4200 ≤ 140737488355328) :
    Calls Try.prog 30 #[.pointer (some ⟨eb, 0, none⟩), .string x] W fun e w' => ITPost Kp eb W { d with win := (Wn.put d.win x).1 } p q.ag q.cv (S ++ Ip.packet { d with win := (Wn.put d.win x).1 } (Wn.put d.win x).2.1 x) C e w' := by
  have hrt := Ip.runs_rt hb hr
  have hput := Wn.put_ok hrt (by omega) x
  have hP := put_anyN d.win p.w p.wc x W ⟨h.win.e, h.wcap⟩
  have hnum := Wn.num_lt hrt d.win.l.length
  have hmd := hr.md
  rw [hput] at hP ⊢
  refine isendText_go h x { d.win with l := d.win.l ++ [x] } (Wn.num d.win d.win.l.length) _ rfl _ _ rfl ?_ fun W1 a c hn hh f => ?_
  · refine hP.mono fun e w' ⟨a, c, h1, h2, h3, h4⟩ => ⟨a, c, h1, h.below h3, Fr.of h3 (Nat.le_of_lt h.bk.lt), ?_, h2.cap, ?_⟩
    · rcases h4 with ⟨e1, e2, e3⟩ | h4
      · exfalso
        have := congrArg (fun w : Wn.W => w.l.length) e1
        simp at this
      · exact h.row h2.row h4
    · rcases h4 with ⟨e1, e2, e3⟩ | h4
      · exfalso
        have := congrArg (fun w : Wn.W => w.l.length) e1
        simp at this
      · exact h4
  · have hb2 : Ip.base { d with win := { d.win with l := d.win.l ++ [x] } } := ⟨hb.lt, hb.sz, hb.rm, hb.wn, hb.at_, hb.wt, hb.tr, hb.qu, fun s hs => by
      rcases List.mem_append.1 hs with hs | hs
      · exact hb.wi s hs
      · rw [List.mem_singleton.1 hs]; exact hx, hb.ah⟩
    refine (isayText_any hh hb2 _ (by omega) x hx hlen).mono fun e w' hp => ⟨hp.1, rfl, ?_⟩
    obtain ⟨_, ⟨s', sb', h2⟩, h3⟩ := hp
    exact ⟨a, c, s', sb', hn, h2, f.trans h3⟩
end Go.Proofs.Ytlclfkogbfigbaa
