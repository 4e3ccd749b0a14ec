/-
  Layer 6: the document's disk: do.
-/
import Derived.Test.YtempiajepomajaaRf13
namespace Go.Proofs.Ytempiajepomajaa
open Go.RowKit
namespace Dsk
/-- an operation that may be, if there is power and room -/
def dod (d : Dk) (o : Dop) : Dk × Int := if (o.k = 1 ∨ o.k = 2) ∧ (used (files (note d o)) : Int) > d.cap then (d, 8) else operate d o
end Dsk
theorem rebase {base base' g cap : Nat} {W : World} {l : List Dsk.Dop} {rest : List Value} (h : opE.Own base W g cap l rest) (hb : base' ≤ base) : opE.Own base' W g cap l rest := ⟨h.blk, Nat.le_trans hb h.new, h.le, h.max, h.fit⟩
theorem row_only {W W' : World} {a : Option Addr} {l : List Dsk.Fl} {R : Nat} {C : List Value} {ty : TypeId} (h : fileE.Row W a l) (k : Rg.Bk R C ty W) (hC : ∀ u ∈ C, ∀ s, u ≠ .string s) (ho : Rg.Only R W W') : fileE.Row W' a l :=
  h.only k 0 (by decide) (fun x u hu h => hC u hu x.n (by injection h with h; exact h.symm)) ho
theorem row_same {W W' : World} {g o : Nat} {l : List Dsk.Fl} (h : fileE.Row W (some ⟨g, o, none⟩) l) (e : W'.heap[g]? = W.heap[g]?) (hs : W.heap.size ≤ W'.heap.size) : fileE.Row W' (some ⟨g, o, none⟩) l := by
  obtain ⟨h1, h2⟩ := h.some
  exact .inr ⟨g, o, rfl, Nat.lt_of_lt_of_le h1 hs, h2.same e⟩

set_option maxHeartbeats 4000000 in
set_option maxRecDepth 100000 in
theorem rdo_1 (v : Value) (d : Dsk.Dk) (n t x : ByteArray) (w : World) (hd : Dsk.Ok d) (hdn : d.down = false) (hw : Dsk.used d.safe + Dsk.wt d.ops + x.size + 16 ≤ 10000000000) (h : DAt w v d) :
    Calls Try.prog 54 #[v, .agg #[.int .i64 1, .string n, .string t, .string x]] w fun e w' => DPost w (Dsk.dod d ⟨1, n, t, x⟩) e w' := by
  have HO : Hid (∀ W, Below w.heap.size w W → Calls Try.prog 52 #[v] W fun e w' => OwnDP2 W d e w') := fun W hW => rown2_any v d W hd (h.below hW)
  obtain ⟨j0, hj, hy0, hy1, hy2⟩ := infoOp'
  have hdo1 : Hid (d.cap < (Dsk.used (Dsk.files (Dsk.note d ⟨1, n, t, x⟩)) : Int) → Dsk.dod d ⟨1, n, t, x⟩ = (d, 8)) := fun h => by unfold Dsk.dod; rw [if_pos ⟨by simp, h⟩]
  have hdo : Hid (¬ d.cap < (Dsk.used (Dsk.files (Dsk.note d ⟨1, n, t, x⟩)) : Int) → Dsk.dod d ⟨1, n, t, x⟩ = Dsk.operate d ⟨1, n, t, x⟩) := fun h => by unfold Dsk.dod; rw [if_neg (fun q => h q.2)]
  have hfu := hd.fuse
  have hfu' := hd.fuse'
  have hops := hd.ops
  have HB := Rg.hid rburn_any
  have hdO := Rg.hid hd
  have hnt := Rg.hid (hd.note ⟨1, n, t, x⟩ hw)
  have hfn := Rg.hid (Dsk.files_note hdn ⟨1, n, t, x⟩)
  have hwO := Rg.hid hw
  obtain ⟨sa, sc, oa, oc, rfl, hS, hO, hsc, hoc⟩ := h
  generalize Dsk.dod d ⟨1, n, t, x⟩ = r at *
  obtain ⟨safe, ops, cap, fuse, down⟩ := d
  unfold dval at *
  dsimp only at *
  subst hdn
  obtain ⟨d0, hd0⟩ : ∃ d0 : Dsk.Dk, d0 = ⟨safe, ops, cap, fuse, false⟩ := ⟨_, rfl⟩
  rw [← hd0] at HO hnt hfn hdO hdo hdo1
  replace hd0 := Rg.hid hd0
  have hHO : Hid (∀ W e w', OwnDP2 W d0 e w' → ∃ gs cs go co rest, e = .returned (.agg #[.slice (some ⟨gs, 0, none⟩) safe.length cs, .slice (some ⟨go, 0, none⟩) ops.length co, .int .i64 cap, .int .i64 fuse, .bool false]) ∧ fileE.Row w' (some ⟨gs, 0, none⟩) safe ∧ safe.length ≤ cs ∧ opE.Own W.heap.size w' go co ops rest ∧ gs ≠ go ∧ Below W.heap.size W w') := fun W e w' h => by rw [hd0.out] at h; exact h
  obtain ⟨SN, hSN⟩ : ∃ SN, SN = safe.length := ⟨_, rfl⟩
  obtain ⟨ON, hON⟩ : ∃ ON, ON = ops.length := ⟨_, rfl⟩
  rw [← hSN, ← hON] at hHO HO
  rw [← hON] at hops
  rw [← hSN, ← hON]
  replace hSN := Rg.hid hSN
  replace hON := Rg.hid hON
  clear hS hO hd hsc hoc
  have kB1 : Rg.Bk w.heap.size [.slice sa SN sc, .slice oa ON oc, .int .i64 cap, .int .i64 fuse, .bool false] 28 (((w.alloc (.cells #[.slice sa SN sc, .slice oa ON oc, .int .i64 cap, .int .i64 fuse, .bool false] 28)).alloc (.cells #[.int .i64 1, .string n, .string t, .string x] 56)).alloc (.cells #[.slice none 0 0, .slice none 0 0, .int .i64 0, .int .i64 0, .bool false] 28)) := ((Rg.Bk.new rfl).old _).old _
  have kO1 : Rg.Bk (w.heap.size + 1) [.int .i64 1, .string n, .string t, .string x] 56 (((w.alloc (.cells #[.slice sa SN sc, .slice oa ON oc, .int .i64 cap, .int .i64 fuse, .bool false] 28)).alloc (.cells #[.int .i64 1, .string n, .string t, .string x] 56)).alloc (.cells #[.slice none 0 0, .slice none 0 0, .int .i64 0, .int .i64 0, .bool false] 28)) := (Rg.Bk.new (by simp)).old _
  have kR1 : Rg.Bk (w.heap.size + 1 + 1) [.slice none 0 0, .slice none 0 0, .int .i64 0, .int .i64 0, .bool false] 28 (((w.alloc (.cells #[.slice sa SN sc, .slice oa ON oc, .int .i64 cap, .int .i64 fuse, .bool false] 28)).alloc (.cells #[.int .i64 1, .string n, .string t, .string x] 56)).alloc (.cells #[.slice none 0 0, .slice none 0 0, .int .i64 0, .int .i64 0, .bool false] 28)) := Rg.Bk.new (by simp)
  have hb1 := Rg.al3 w (.cells #[.slice sa SN sc, .slice oa ON oc, .int .i64 cap, .int .i64 fuse, .bool false] 28) (.cells #[.int .i64 1, .string n, .string t, .string x] 56) (.cells #[.slice none 0 0, .slice none 0 0, .int .i64 0, .int .i64 0, .bool false] 28)
  go_enter Try.func54, Try.ntmps54
  go_upto_region 1 with fail
  generalize World.alloc _ _ = w1 at *
  obtain ⟨B, hB⟩ : ∃ B, B = w.heap.size := ⟨_, rfl⟩
  obtain ⟨O, hOd⟩ : ∃ O, O = w.heap.size + 1 := ⟨_, rfl⟩
  obtain ⟨R, hR⟩ : ∃ R, R = w.heap.size + 1 + 1 := ⟨_, rfl⟩
  rw [← hR] at kR1 ⊢
  rw [← hOd] at kO1 ⊢
  rw [← hB] at kB1 ⊢
  have hBR : B ≠ R := by omega
  have hBO : B ≠ O := by omega
  have hOR : O ≠ R := by omega
  have hBw : w.heap.size ≤ B := by omega
  have hRw : w.heap.size ≤ R := by omega
  have hBl : B < w1.heap.size := kB1.lt
  have hOl : O < w1.heap.size := kO1.lt
  have hRl : R < w1.heap.size := kR1.lt
  clear hB hR hOd
  have c0 : w1.cell? ⟨B, 0, none⟩ = some (.slice sa SN sc) := kB1.cell 0
  have c1 : w1.cell? ⟨B, 1, none⟩ = some (.slice oa ON oc) := kB1.cell 1
  have c2 : w1.cell? ⟨B, 2, none⟩ = some (.int .i64 cap) := kB1.cell 2
  have c3 : w1.cell? ⟨B, 3, none⟩ = some (.int .i64 fuse) := kB1.cell 3
  have c4 : w1.cell? ⟨B, 4, none⟩ = some (.bool false) := kB1.cell 4
  have kB1' := Rg.hid kB1
  have kO1' := Rg.hid kO1
  have kR1' := Rg.hid kR1
  clear kB1 kR1 kO1
  go_upto_region 2 with (go_at_call 52; refine (HO.out _ hb1).mono ?_; rintro e w2 hq; obtain ⟨gs, cs, go, co, rest, rfl, hS2, hcs2, hO2, hne2, b2⟩ := hHO.out _ _ _ hq; clear hq; have kB2 := kB1'.out.below b2 kB1'.out.lt; have y0 := kB2.cell 0; have y1 := kB2.cell 1; have y2 := kB2.cell 2; have y3 := kB2.cell 3; have y4 := kB2.cell 4; simp only [List.getElem?_cons_zero, List.getElem?_cons_succ] at y0 y1 y2 y3 y4; have yf := kB2.thaw)
  have kR2 := kR1'.out.below b2 kR1'.out.lt
  have kO2 := kO1'.out.below b2 kO1'.out.lt
  have hb2 := Rg.chain hb1 b2
  have hgo1 := hO2.new
  have hgB : go ≠ B := by omega
  have hgR : go ≠ R := by omega
  have hgO : go ≠ O := by omega
  obtain ⟨kB3, oB⟩ := Rg.ret5 kB2 rfl (.slice (some ⟨gs, 0, none⟩) SN cs) (.slice (some ⟨go, 0, none⟩) ON co) (.int .i64 cap) (.int .i64 fuse) (.bool false)
  have kR3 := kR2.same (oB.block R (Ne.symm hBR))
  have kO3 := kO2.same (oB.block O (Ne.symm hBO))
  have hS3 := row_only hS2 kB2 plainD oB
  have hO3 := rebase (hO2.same (oB.block go hgB)) hb1.size
  have hb3 := hb2.trans (oB.bel hBw)
  clear y0 y1 y2 y3 y4 yf kB2 kR2 kO2 oB hS2 hO2 b2 hb2 HO c0 c1 c2 c3 c4 kB1' kR1' kO1' hb1 hHO hgo1
  generalize World.setCell _ _ _ = w3 at *
  have hD3 : DAt w3 (.agg #[.slice (some ⟨gs, 0, none⟩) SN cs, .slice (some ⟨go, 0, none⟩) ON co, .int .i64 cap, .int .i64 fuse, .bool false]) d0 := by
    rw [hd0.out, hSN.out, hON.out]
    exact ⟨some ⟨gs, 0, none⟩, cs, some ⟨go, 0, none⟩, co, rfl, hS3, hO3.toRow, by rw [← hSN.out]; exact hcs2, hO3.le⟩
  have hdn0 : d0.down = false := by rw [hd0.out]
  have hfcells : Hid (∀ W, Below w3.heap.size w3 W → W.cell? ⟨B, 0, none⟩ = some (.slice (some ⟨gs, 0, none⟩) SN cs) ∧ W.cell? ⟨B, 1, none⟩ = some (.slice (some ⟨go, 0, none⟩) ON co) ∧ W.cell? ⟨B, 2, none⟩ = some (.int .i64 cap) ∧ W.cell? ⟨B, 3, none⟩ = some (.int .i64 fuse) ∧ W.cell? ⟨B, 4, none⟩ = some (.bool false) ∧ W.cell? ⟨O, 0, none⟩ = some (.int .i64 1) ∧ W.cell? ⟨O, 1, none⟩ = some (.string n) ∧ W.cell? ⟨O, 2, none⟩ = some (.string t) ∧ W.cell? ⟨O, 3, none⟩ = some (.string x)) := fun W hW => by
    have k1 := kB3.below hW kB3.lt
    have k2 := kO3.below hW kO3.lt
    exact ⟨k1.cell 0, k1.cell 1, k1.cell 2, k1.cell 3, k1.cell 4, k2.cell 0, k2.cell 1, k2.cell 2, k2.cell 3⟩
  have hul := hdO.out.files
  have hll := Dsk.len_used (Dsk.files d0)
  have hul2 := hnt.out.files
  rw [hfn.out] at hul2 hdo hdo1
  have hxs : Dsk.used (Dsk.files d0) + x.size ≤ 1000000000000 := by have := hwO.out; omega
  obtain ⟨FL, hFL⟩ : ∃ FL, FL = Dsk.files d0 := ⟨_, rfl⟩
  obtain ⟨FN, hFN⟩ : ∃ FN, FN = FL.length := ⟨_, rfl⟩
  obtain ⟨AL, hAL⟩ : ∃ AL, AL = Dsk.after FL ⟨1, n, t, x⟩ := ⟨_, rfl⟩
  obtain ⟨AN, hAN⟩ : ∃ AN, AN = AL.length := ⟨_, rfl⟩
  obtain ⟨U, hU⟩ : ∃ U, U = Dsk.used AL := ⟨_, rfl⟩
  rw [← hFL] at hul hll hxs hul2 hdo hdo1
  rw [← hAL] at hul2 hdo hdo1
  rw [← hU] at hdo hdo1
  have HF : Hid (∀ W, Below w3.heap.size w3 W → Calls Try.prog 20 #[.agg #[.slice (some ⟨gs, 0, none⟩) SN cs, .slice (some ⟨go, 0, none⟩) ON co, .int .i64 cap, .int .i64 fuse, .bool false]] W fun e w' => ∃ fg fc, e = .returned (.slice (some ⟨fg, 0, none⟩) FN fc) ∧ Hid (fileE.Row w' (some ⟨fg, 0, none⟩) FL ∧ FL.length ≤ fc) ∧ Below w3.heap.size w3 w' ∧ w'.cell? ⟨B, 0, none⟩ = some (.slice (some ⟨gs, 0, none⟩) SN cs) ∧ w'.cell? ⟨B, 1, none⟩ = some (.slice (some ⟨go, 0, none⟩) ON co) ∧ w'.cell? ⟨B, 2, none⟩ = some (.int .i64 cap) ∧ w'.cell? ⟨B, 3, none⟩ = some (.int .i64 fuse) ∧ w'.cell? ⟨B, 4, none⟩ = some (.bool false) ∧ w'.cell? ⟨O, 0, none⟩ = some (.int .i64 1) ∧ w'.cell? ⟨O, 1, none⟩ = some (.string n) ∧ w'.cell? ⟨O, 2, none⟩ = some (.string t) ∧ w'.cell? ⟨O, 3, none⟩ = some (.string x)) := fun W hW => (rfiles_up _ d0 W hdO.out hdn0 (hD3.below hW)).mono fun e w' ⟨fg, fc, h1, h2, h3, h4⟩ => ⟨fg, fc, by rw [h1, hFN, hFL], ⟨by rw [hFL]; exact h2, by rw [hFL]; exact h3⟩, Rg.chain hW h4, hfcells.out _ (Rg.chain hW h4)⟩
  have HA : Hid (∀ W fg fc, Below w3.heap.size w3 W → Hid (fileE.Row W (some ⟨fg, 0, none⟩) FL ∧ FL.length ≤ fc) → Calls Try.prog 46 #[.slice (some ⟨fg, 0, none⟩) FN fc, .agg #[.int .i64 1, .string n, .string t, .string x]] W fun e w' => ∃ ag ac, e = .returned (.slice (some ⟨ag, 0, none⟩) AN ac) ∧ Hid (fileE.Row w' (some ⟨ag, 0, none⟩) AL) ∧ Below w3.heap.size w3 w' ∧ w'.cell? ⟨B, 0, none⟩ = some (.slice (some ⟨gs, 0, none⟩) SN cs) ∧ w'.cell? ⟨B, 1, none⟩ = some (.slice (some ⟨go, 0, none⟩) ON co) ∧ w'.cell? ⟨B, 2, none⟩ = some (.int .i64 cap) ∧ w'.cell? ⟨B, 3, none⟩ = some (.int .i64 fuse) ∧ w'.cell? ⟨B, 4, none⟩ = some (.bool false) ∧ w'.cell? ⟨O, 0, none⟩ = some (.int .i64 1) ∧ w'.cell? ⟨O, 1, none⟩ = some (.string n) ∧ w'.cell? ⟨O, 2, none⟩ = some (.string t) ∧ w'.cell? ⟨O, 3, none⟩ = some (.string x)) := fun W fg fc hW hq => by
    have := rafter_any fg fc FL 1 n t x W (by omega) hxs hq.out.2 hq.out.1
    rw [← hFN] at this
    exact this.mono fun e w' ⟨ag, ac, h1, h2, h3, h4⟩ => ⟨ag, ac, by rw [h1, hAN, hAL], by rw [hAL]; exact h2, Rg.chain hW h4, hfcells.out _ (Rg.chain hW h4)⟩
  have HY : Hid (∀ W ag ac, Below w3.heap.size w3 W → Hid (fileE.Row W (some ⟨ag, 0, none⟩) AL) → Calls Try.prog 44 #[.slice (some ⟨ag, 0, none⟩) AN ac] W fun e w' => e = .returned (.int .i64 U) ∧ Below w3.heap.size w3 w' ∧ w'.cell? ⟨B, 0, none⟩ = some (.slice (some ⟨gs, 0, none⟩) SN cs) ∧ w'.cell? ⟨B, 1, none⟩ = some (.slice (some ⟨go, 0, none⟩) ON co) ∧ w'.cell? ⟨B, 2, none⟩ = some (.int .i64 cap) ∧ w'.cell? ⟨B, 3, none⟩ = some (.int .i64 fuse) ∧ w'.cell? ⟨B, 4, none⟩ = some (.bool false) ∧ w'.cell? ⟨O, 0, none⟩ = some (.int .i64 1) ∧ w'.cell? ⟨O, 1, none⟩ = some (.string n) ∧ w'.cell? ⟨O, 2, none⟩ = some (.string t) ∧ w'.cell? ⟨O, 3, none⟩ = some (.string x)) := fun W ag ac hW hq => by
    have := rbytes_any (some ⟨ag, 0, none⟩) ac AL W hul2 hq.out
    rw [← hAN, ← hU] at this
    exact this.mono fun e w' ⟨h1, h4⟩ => ⟨h1, Rg.chain hW h4, hfcells.out _ (Rg.chain hW h4)⟩
  obtain ⟨z0, z1, z2, z3, z4, q0, q1, q2, q3⟩ := hfcells.out w3 (Below.refl _ _)
  have hU0 : U ≤ 10000000000 := by rw [hU]; exact hul2
  replace kB3 := Rg.hid kB3
  replace kO3 := Rg.hid kO3
  replace kR3 := Rg.hid kR3
  replace hS3 := Rg.hid hS3
  replace hO3 := Rg.hid hO3
  replace hb3 := Rg.hid hb3
  clear hul hll hul2 hxs hFL hFN hAL hAN hU hdn0 hD3 hfcells hnt hfn hj hy0 hy1 hy2
  refine wp_region_held_drew (S := (fun w' => w'.cell? ⟨B, 0, none⟩ = some (.slice (some ⟨gs, 0, none⟩) SN cs) ∧ w'.cell? ⟨B, 1, none⟩ = some (.slice (some ⟨go, 0, none⟩) ON co) ∧ w'.cell? ⟨B, 2, none⟩ = some (.int .i64 cap) ∧ w'.cell? ⟨B, 3, none⟩ = some (.int .i64 fuse) ∧ w'.cell? ⟨B, 4, none⟩ = some (.bool false) ∧ w'.cell? ⟨O, 0, none⟩ = some (.int .i64 1) ∧ w'.cell? ⟨O, 1, none⟩ = some (.string n) ∧ w'.cell? ⟨O, 2, none⟩ = some (.string t) ∧ w'.cell? ⟨O, 3, none⟩ = some (.string x))) (by kernel_rfl) ?_ (fun hH0 => ?_)
  · go_keep
  refine wpAnyH_take (i := 0) (oi := { dst := some 10, op := Op.fieldAddr 56 (Operand.tmp 3) 0, type := 0, pos := "ref.go:119", after := #[], guard := none }) (v := ?_) rfl (by kernel_rfl) (by kernel_rfl) (by kernel_rfl) (fun _ _ _ h => h) (Or.inl ⟨by rfl, ?_⟩) (by assumption) ?_
  rotate_left
  · (intro w hSw; (try dsimp only at hSw); go_simp); (try with_reducible rfl)
  simp only [Act.put, List.setIfInBounds_toArray, List.set_cons_zero, List.set_cons_succ]
  refine wpAnyH_take (i := 1) (oi := { dst := some 11, op := Op.load 3 (Operand.tmp 10), type := 3, pos := "ref.go:119", after := #[{ on := 0, ground := Ground.data }], guard := none }) (v := ?_) rfl (by kernel_rfl) (by kernel_rfl) (by kernel_rfl) (fun _ _ _ h => h) (Or.inl ⟨by rfl, ?_⟩) (by assumption) ?_
  rotate_left
  · (intro w hSw; (try dsimp only at hSw); go_simp); (try with_reducible rfl)
  simp only [Act.put, List.setIfInBounds_toArray, List.set_cons_zero, List.set_cons_succ]
  refine wpAnyH_take (i := 2) (oi := { dst := some 12, op := Op.binOp BinOp.eql 3 (Operand.tmp 11) (Operand.const (Value.int IntKind.i64 1)) 3, type := 4, pos := "ref.go:119", after := #[{ on := 1, ground := Ground.data }], guard := none }) (v := ?_) rfl (by kernel_rfl) (by kernel_rfl) (by kernel_rfl) (fun _ _ _ h => h) (Or.inl ⟨by rfl, ?_⟩) (by assumption) ?_
  rotate_left
  · (intro w hSw; (try dsimp only at hSw); go_simp); (try with_reducible rfl)
  simp only [Act.put, List.setIfInBounds_toArray, List.set_cons_zero, List.set_cons_succ]
  refine wpAnyH_take (i := 3) (oi := { dst := some 13, op := Op.move (Operand.tmp 12), type := 4, pos := "ref.go:119", after := #[{ on := 2, ground := Ground.data }], guard := none }) (v := ?_) rfl (by kernel_rfl) (by kernel_rfl) (by kernel_rfl) (fun _ _ _ h => h) (Or.inl ⟨by rfl, ?_⟩) (by assumption) ?_
  rotate_left
  · (intro w hSw; (try dsimp only at hSw); go_simp); (try with_reducible rfl)
  simp only [Act.put, List.setIfInBounds_toArray, List.set_cons_zero, List.set_cons_succ]
  refine wpAnyH_take (i := 4) (oi := { dst := some 14, op := Op.fieldAddr 56 (Operand.tmp 3) 0, type := 0, pos := "ref.go:119", after := #[{ on := 3, ground := Ground.guard }], guard := some (3, false) }) (v := undef) rfl (by kernel_rfl) (by kernel_rfl) (by kernel_rfl) (fun _ _ _ h => h) (Or.inr ⟨by rfl, rfl⟩) (by assumption) ?_
  simp only [Act.put, List.setIfInBounds_toArray, List.set_cons_zero, List.set_cons_succ]
  refine wpAnyH_take (i := 5) (oi := { dst := some 15, op := Op.load 3 (Operand.tmp 14), type := 3, pos := "ref.go:119", after := #[{ on := 4, ground := Ground.data }, { on := 3, ground := Ground.guard }], guard := some (3, false) }) (v := undef) rfl (by kernel_rfl) (by kernel_rfl) (by kernel_rfl) (fun _ _ _ h => h) (Or.inr ⟨by rfl, rfl⟩) (by assumption) ?_
  simp only [Act.put, List.setIfInBounds_toArray, List.set_cons_zero, List.set_cons_succ]
  refine wpAnyH_take (i := 6) (oi := { dst := some 16, op := Op.binOp BinOp.eql 3 (Operand.tmp 15) (Operand.const (Value.int IntKind.i64 2)) 3, type := 4, pos := "ref.go:119", after := #[{ on := 5, ground := Ground.data }, { on := 3, ground := Ground.guard }], guard := some (3, false) }) (v := undef) rfl (by kernel_rfl) (by kernel_rfl) (by kernel_rfl) (fun _ _ _ h => h) (Or.inr ⟨by rfl, rfl⟩) (by assumption) ?_
  simp only [Act.put, List.setIfInBounds_toArray, List.set_cons_zero, List.set_cons_succ]
  refine wpAnyH_take (i := 7) (oi := { dst := some 17, op := Op.pick (Operand.tmp 13) (Operand.const (Value.bool true)) (Operand.tmp 16), type := 4, pos := "ref.go:119", after := #[{ on := 3, ground := Ground.data }, { on := 6, ground := Ground.data }], guard := none }) (v := ?_) rfl (by kernel_rfl) (by kernel_rfl) (by kernel_rfl) (fun _ _ _ h => h) (Or.inl ⟨by rfl, ?_⟩) (by assumption) ?_
  rotate_left
  · (intro w hSw; (try dsimp only at hSw); go_simp); (try with_reducible rfl)
  simp only [Act.put, List.setIfInBounds_toArray, List.set_cons_zero, List.set_cons_succ]
  refine wpAnyH_take (i := 8) (oi := { dst := some 18, op := Op.move (Operand.tmp 17), type := 4, pos := "ref.go:119", after := #[{ on := 7, ground := Ground.data }, { on := 3, ground := Ground.chain }], guard := none }) (v := ?_) rfl (by kernel_rfl) (by kernel_rfl) (by kernel_rfl) (fun _ _ _ h => h) (Or.inl ⟨by rfl, ?_⟩) (by assumption) ?_
  rotate_left
  · (intro w hSw; (try dsimp only at hSw); go_simp); (try with_reducible rfl)
  simp only [Act.put, List.setIfInBounds_toArray, List.set_cons_zero, List.set_cons_succ]
  refine wpAnyH_take (i := 9) (oi := { dst := some 19, op := Op.load 28 (Operand.tmp 2), type := 28, pos := "ref.go:119", after := #[{ on := 8, ground := Ground.guard }], guard := some (8, true) }) (v := ?_) rfl (by kernel_rfl) (by kernel_rfl) (by kernel_rfl) (fun _ _ _ h => h) (Or.inl ⟨by rfl, ?_⟩) (by assumption) ?_
  rotate_left
  · (intro w hSw; (try dsimp only at hSw); go_simp); (try with_reducible rfl)
  simp only [Act.put, List.setIfInBounds_toArray, List.set_cons_zero, List.set_cons_succ]
  refine wpAnyH_take (i := 11) (oi := { dst := some 21, op := Op.load 56 (Operand.tmp 3), type := 56, pos := "ref.go:119", after := #[{ on := 8, ground := Ground.guard }], guard := some (8, true) }) (v := ?_) rfl (by kernel_rfl) (by kernel_rfl) (by kernel_rfl) (fun _ _ _ h => h) (Or.inl ⟨by rfl, ?_⟩) (by assumption) ?_
  rotate_left
  · (intro w hSw; (try dsimp only at hSw); go_simp); (try with_reducible rfl)
  simp only [Act.put, List.setIfInBounds_toArray, List.set_cons_zero, List.set_cons_succ]
  refine wpAnyH_take (i := 14) (oi := { dst := some 24, op := Op.fieldAddr 28 (Operand.tmp 2) 2, type := 0, pos := "ref.go:119", after := #[{ on := 8, ground := Ground.guard }], guard := some (8, true) }) (v := ?_) rfl (by kernel_rfl) (by kernel_rfl) (by kernel_rfl) (fun _ _ _ h => h) (Or.inl ⟨by rfl, ?_⟩) (by assumption) ?_
  rotate_left
  · (intro w hSw; (try dsimp only at hSw); go_simp); (try with_reducible rfl)
  simp only [Act.put, List.setIfInBounds_toArray, List.set_cons_zero, List.set_cons_succ]
  refine wpAnyH_take (i := 15) (oi := { dst := some 25, op := Op.load 3 (Operand.tmp 24), type := 3, pos := "ref.go:119", after := #[{ on := 14, ground := Ground.data }, { on := 8, ground := Ground.guard }], guard := some (8, true) }) (v := ?_) rfl (by kernel_rfl) (by kernel_rfl) (by kernel_rfl) (fun _ _ _ h => h) (Or.inl ⟨by rfl, ?_⟩) (by assumption) ?_
  rotate_left
  · (intro w hSw; (try dsimp only at hSw); go_simp); (try with_reducible rfl)
  simp only [Act.put, List.setIfInBounds_toArray, List.set_cons_zero, List.set_cons_succ]
  refine wpAnyH_ready (rs := [10]) (by kernel_rfl) (by simp) ?_
  refine AllReadyH.cons (o := { dst := some 20, op := Op.call { callee := Callee.value (Operand.func 20), args := #[Operand.tmp 19], argTypes := #[28] }, type := 25, pos := "ref.go:119", after := #[{ on := 9, ground := Ground.data }, { on := 8, ground := Ground.chain }, { on := 8, ground := Ground.guard }], guard := some (8, true) }) rfl (fun K hK => ?_) AllReadyH.nil
  go_simp
  go_at_call 20; refine (HF.out _ ?_).mono ?_; (first | exact Below.refl _ _ | exact (Below.refl _ _).drew); rintro e w4 ⟨fg, fc, rfl, hFr, b4, pb0, pb1, pb2, pb3, pb4, po0, po1, po2, po3⟩
  refine hK.out _ _ ?_ (fun hH10 => ?_)
  · go_keep
  clear hK K hH0
  refine wpAnyH_ready (rs := [12]) (by kernel_rfl) (by simp) ?_
  refine AllReadyH.cons (o := { dst := some 22, op := Op.call { callee := Callee.value (Operand.func 46), args := #[Operand.tmp 20, Operand.tmp 21], argTypes := #[25, 56] }, type := 25, pos := "ref.go:119", after := #[{ on := 10, ground := Ground.data }, { on := 11, ground := Ground.data }, { on := 10, ground := Ground.chain }, { on := 8, ground := Ground.guard }], guard := some (8, true) }) rfl (fun K hK => ?_) AllReadyH.nil
  go_simp
  go_at_call 46; refine (HA.out _ _ _ b4 hFr).mono ?_; rintro e w5 ⟨ag, ac, rfl, hAr, b5, sb0, sb1, sb2, sb3, sb4, so0, so1, so2, so3⟩
  refine hK.out _ _ ?_ (fun hH12 => ?_)
  · go_keep
  clear hK K hH10
  refine wpAnyH_ready (rs := [13]) (by kernel_rfl) (by simp) ?_
  refine AllReadyH.cons (o := { dst := some 23, op := Op.call { callee := Callee.value (Operand.func 44), args := #[Operand.tmp 22], argTypes := #[25] }, type := 3, pos := "ref.go:119", after := #[{ on := 12, ground := Ground.data }, { on := 12, ground := Ground.chain }, { on := 8, ground := Ground.guard }], guard := some (8, true) }) rfl (fun K hK => ?_) AllReadyH.nil
  go_simp
  go_at_call 44; refine (HY.out _ _ _ b5 hAr).mono ?_; rintro e w6 ⟨rfl, b6, qb0, qb1, qb2, qb3, qb4, qo0, qo1, qo2, qo3⟩
  refine hK.out _ _ ?_ (fun hH13 => ?_)
  · go_keep
  clear hK K hH12
  refine wpAnyH_take (i := 16) (oi := { dst := some 26, op := Op.binOp BinOp.gtr 3 (Operand.tmp 23) (Operand.tmp 25) 3, type := 4, pos := "ref.go:119", after := #[{ on := 13, ground := Ground.data }, { on := 15, ground := Ground.data }, { on := 8, ground := Ground.guard }], guard := some (8, true) }) (v := ?_) rfl (by kernel_rfl) (by kernel_rfl) (by kernel_rfl) (fun _ _ _ h => h) (Or.inl ⟨by rfl, ?_⟩) (by assumption) ?_
  rotate_left
  · (intro w hSw; (try dsimp only at hSw); go_simp); (try with_reducible rfl)
  simp only [Act.put, List.setIfInBounds_toArray, List.set_cons_zero, List.set_cons_succ]
  refine wpAnyH_take (i := 17) (oi := { dst := some 27, op := Op.pick (Operand.tmp 18) (Operand.tmp 26) (Operand.const (Value.bool false)), type := 4, pos := "ref.go:119", after := #[{ on := 8, ground := Ground.data }, { on := 16, ground := Ground.data }], guard := none }) (v := ?_) rfl (by kernel_rfl) (by kernel_rfl) (by kernel_rfl) (fun _ _ _ h => h) (Or.inl ⟨by rfl, ?_⟩) (by assumption) ?_
  rotate_left
  · (intro w hSw; (try dsimp only at hSw); go_simp); (try with_reducible rfl)
  simp only [Act.put, List.setIfInBounds_toArray, List.set_cons_zero, List.set_cons_succ]
  refine wpAnyH_done (by kernel_rfl) ?_ _
  clear z0 z1 z2 z3 z4 q0 q1 q2 q3 HF HA HY hAr hFr pb0 pb1 pb2 pb3 pb4 po0 po1 po2 po3 sb0 sb1 sb2 sb3 sb4 so0 so1 so2 so3 b4 b5 qb0 qb1 qb2 qb3 qb4 qo0 qo1 qo2 qo3 hU0
  have kB6 := kB3.out.below b6 kB3.out.lt
  have kO6 := kO3.out.below b6 kO3.out.lt
  have kR6 := kR3.out.below b6 kR3.out.lt
  have hS6 := hS3.out.below b6
  have hO6 := hO3.out.below b6
  have hb6 := Rg.chain hb3.out b6
  clear b6 kB3 kO3 kR3 hS3 hO3 hb3
  clear hH13
  by_cases hzz : cap < (U : Int)
  · have dz : decide (cap < (U : Int)) = true := by simp [hzz]
    have hch := hdo1.out hzz
    subst hch
    have hD6 : DAt w6 (.agg #[.slice (some ⟨gs, 0, none⟩) SN cs, .slice (some ⟨go, 0, none⟩) ON co, .int .i64 cap, .int .i64 fuse, .bool false]) d0 := by
      rw [hd0.out, hSN.out, hON.out]
      exact ⟨some ⟨gs, 0, none⟩, cs, some ⟨go, 0, none⟩, co, rfl, hS6, hO6.toRow, by rw [← hSN.out]; exact hcs2, hO6.le⟩
    clear hdo1 hdo HB hdO hd0 hSN hON hwO hS6 hO6 kO6
    go_upto_region 3 with fail
    obtain ⟨kE, oE⟩ := Rg.ret5 kR6 rfl (.slice (some ⟨gs, 0, none⟩) SN cs) (.slice (some ⟨go, 0, none⟩) ON co) (.int .i64 cap) (.int .i64 fuse) (.bool false)
    have hDE := hD6.only kR6 plainZ oE
    have post := Rg.hid (⟨_, rfl, hDE, hb6.trans (oE.bel hRw)⟩ : DPost w (_, 8) (.returned _) _)
    replace kE := Rg.hid kE
    have d0' : w6.cell? ⟨B, 0, none⟩ = some (.slice (some ⟨gs, 0, none⟩) SN cs) := kB6.cell 0
    have d1' : w6.cell? ⟨B, 1, none⟩ = some (.slice (some ⟨go, 0, none⟩) ON co) := kB6.cell 1
    have d2' : w6.cell? ⟨B, 2, none⟩ = some (.int .i64 cap) := kB6.cell 2
    have d3' : w6.cell? ⟨B, 3, none⟩ = some (.int .i64 fuse) := kB6.cell 3
    have d4' : w6.cell? ⟨B, 4, none⟩ = some (.bool false) := kB6.cell 4
    have r0 : w6.cell? ⟨R, 0, none⟩ = some (.slice none 0 0) := kR6.cell 0
    have r1 : w6.cell? ⟨R, 1, none⟩ = some (.slice none 0 0) := kR6.cell 1
    have r2 : w6.cell? ⟨R, 2, none⟩ = some (.int .i64 0) := kR6.cell 2
    have r3 : w6.cell? ⟨R, 3, none⟩ = some (.int .i64 0) := kR6.cell 3
    have r4 : w6.cell? ⟨R, 4, none⟩ = some (.bool false) := kR6.cell 4
    have rf := kR6.thaw
    clear oE kR6 hDE hD6 kB6
    go_wp2
    replace kE := kE.out
    replace post := post.out
    generalize World.setCell _ _ _ = WE at *
    exact bodyPost_ret (v := .tuple #[.agg #[.slice (some ⟨gs, 0, none⟩) SN cs, .slice (some ⟨go, 0, none⟩) ON co, .int .i64 cap, .int .i64 fuse, .bool false], .int .i64 8]) (by simp [results, Try.results54, go_sem, kE.cell]) rfl post
  have dz : decide (cap < (U : Int)) = false := by simp; omega
  have hch := hdo.out (by omega)
  clear hdo1 hdo
  have z0 : w6.cell? ⟨B, 0, none⟩ = some (.slice (some ⟨gs, 0, none⟩) SN cs) := kB6.cell 0
  have z1 : w6.cell? ⟨B, 1, none⟩ = some (.slice (some ⟨go, 0, none⟩) ON co) := kB6.cell 1
  have z2 : w6.cell? ⟨B, 2, none⟩ = some (.int .i64 cap) := kB6.cell 2
  have z3 : w6.cell? ⟨B, 3, none⟩ = some (.int .i64 fuse) := kB6.cell 3
  have z4 : w6.cell? ⟨B, 4, none⟩ = some (.bool false) := kB6.cell 4
  go_upto_region 4 with fail
  rw [hd0.out] at hch
  by_cases hz : fuse = 0
  · subst hz
    have hop : Dsk.operate ⟨safe, ops, cap, 0, false⟩ ⟨1, n, t, x⟩ = (⟨safe, ops, cap, 0, true⟩, 9) := rfl
    rw [hop] at hch
    subst hch
    have HB' : Hid (∀ W, Calls Try.prog 56 #[.agg #[.slice (some ⟨gs, 0, none⟩) SN cs, .slice (some ⟨go, 0, none⟩) ON co, .int .i64 cap, .int .i64 0, .bool false]] W fun e w' => e = .returned (.tuple #[.agg #[.slice (some ⟨gs, 0, none⟩) SN cs, .slice (some ⟨go, 0, none⟩) ON co, .int .i64 cap, .int .i64 0, .bool true], .bool false]) ∧ Below W.heap.size W w') := fun W => (HB.out (some ⟨gs, 0, none⟩) SN cs (some ⟨go, 0, none⟩) ON co cap 0 false W (by omega) (by omega)).mono fun e w' ⟨h1, h2⟩ => ⟨by rw [h1]; simp, h2⟩
    have hD3' : Hid (DAt w6 (.agg #[.slice (some ⟨gs, 0, none⟩) SN cs, .slice (some ⟨go, 0, none⟩) ON co, .int .i64 cap, .int .i64 0, .bool true]) ⟨safe, ops, cap, 0, true⟩) := by
      rw [hSN.out, hON.out]
      exact ⟨some ⟨gs, 0, none⟩, cs, some ⟨go, 0, none⟩, co, rfl, hS6, hO6.toRow, by rw [← hSN.out]; exact hcs2, hO6.le⟩
    have kR3' := Rg.hid kR6
    have hb3' := Rg.hid hb6
    clear kB6 kO6 kR6 hS6 hO6 hb6 HB hdO hd0 hSN hON hwO hop
    go_upto_region 6 with (go_at_call 56; refine (HB'.out _).mono ?_; rintro e w4 ⟨rfl, b4⟩)
    have kE5 : Rg.Bk w4.heap.size [.slice (some ⟨gs, 0, none⟩) SN cs, .slice (some ⟨go, 0, none⟩) ON co, .int .i64 cap, .int .i64 0, .bool true] 28 (w4.alloc (.cells #[.slice (some ⟨gs, 0, none⟩) SN cs, .slice (some ⟨go, 0, none⟩) ON co, .int .i64 cap, .int .i64 0, .bool true] 28)) := Rg.Bk.new rfl
    have kR5 := (kR3'.out.below b4 kR3'.out.lt).old (.cells #[.slice (some ⟨gs, 0, none⟩) SN cs, .slice (some ⟨go, 0, none⟩) ON co, .int .i64 cap, .int .i64 0, .bool true] 28)
    have b5 := Rg.chain b4 (Rg.al1 w4 (.cells #[.slice (some ⟨gs, 0, none⟩) SN cs, .slice (some ⟨go, 0, none⟩) ON co, .int .i64 cap, .int .i64 0, .bool true] 28))
    have hD5 := hD3'.out.below b5
    have hb5 := Rg.chain hb3'.out b5
    have hEw : w.heap.size ≤ w4.heap.size := Nat.le_trans hb3'.out.size b4.size
    have hER : w4.heap.size ≠ R := fun h => by have := (kR3'.out.below b4 kR3'.out.lt).lt; omega
    clear b4 b5 kR3' hD3' hb3' HB' z0 z1 z2 z3 z4
    generalize World.alloc _ _ = w5 at *
    generalize w4.heap.size = E at *
    obtain ⟨kE, oE⟩ := Rg.ret5 kR5 rfl (.slice (some ⟨gs, 0, none⟩) SN cs) (.slice (some ⟨go, 0, none⟩) ON co) (.int .i64 cap) (.int .i64 0) (.bool true)
    have hDE := hD5.only kR5 plainZ oE
    have post := Rg.hid (⟨_, rfl, hDE, hb5.trans (oE.bel hRw)⟩ : DPost w (_, 9) (.returned _) _)
    replace kE := Rg.hid kE
    have d0' : w5.cell? ⟨E, 0, none⟩ = some (.slice (some ⟨gs, 0, none⟩) SN cs) := kE5.cell 0
    have d1' : w5.cell? ⟨E, 1, none⟩ = some (.slice (some ⟨go, 0, none⟩) ON co) := kE5.cell 1
    have d2' : w5.cell? ⟨E, 2, none⟩ = some (.int .i64 cap) := kE5.cell 2
    have d3' : w5.cell? ⟨E, 3, none⟩ = some (.int .i64 0) := kE5.cell 3
    have d4' : w5.cell? ⟨E, 4, none⟩ = some (.bool true) := kE5.cell 4
    have r0 : w5.cell? ⟨R, 0, none⟩ = some (.slice none 0 0) := kR5.cell 0
    have r1 : w5.cell? ⟨R, 1, none⟩ = some (.slice none 0 0) := kR5.cell 1
    have r2 : w5.cell? ⟨R, 2, none⟩ = some (.int .i64 0) := kR5.cell 2
    have r3 : w5.cell? ⟨R, 3, none⟩ = some (.int .i64 0) := kR5.cell 3
    have r4 : w5.cell? ⟨R, 4, none⟩ = some (.bool false) := kR5.cell 4
    have rf := kR5.thaw
    clear oE kR5 hDE hD5 kE5
    go_wp2
    replace kE := kE.out
    replace post := post.out
    generalize World.setCell _ _ _ = WE at *
    exact bodyPost_ret (v := .tuple #[.agg #[.slice (some ⟨gs, 0, none⟩) SN cs, .slice (some ⟨go, 0, none⟩) ON co, .int .i64 cap, .int .i64 0, .bool true], .int .i64 9]) (by simp [results, Try.results54, go_sem, kE.cell]) rfl post
  obtain ⟨fz, hfz⟩ : ∃ fz, fz = if fuse > 0 then fuse - 1 else fuse := ⟨_, rfl⟩
  have hop : Dsk.operate ⟨safe, ops, cap, fuse, false⟩ ⟨1, n, t, x⟩ = (⟨safe, ops ++ [⟨1, n, t, x⟩], cap, fz, false⟩, 0) := by
    unfold Dsk.operate
    rw [if_neg hz, Dsk.burn_eq, hfz]
    rfl
  rw [hop] at hch
  subst hch
  have HB' : Hid (∀ W, Calls Try.prog 56 #[.agg #[.slice (some ⟨gs, 0, none⟩) SN cs, .slice (some ⟨go, 0, none⟩) ON co, .int .i64 cap, .int .i64 fuse, .bool false]] W fun e w' => e = .returned (.tuple #[.agg #[.slice (some ⟨gs, 0, none⟩) SN cs, .slice (some ⟨go, 0, none⟩) ON co, .int .i64 cap, .int .i64 fz, .bool false], .bool true]) ∧ Below W.heap.size W w') := fun W => (HB.out (some ⟨gs, 0, none⟩) SN cs (some ⟨go, 0, none⟩) ON co cap fuse false W hfu hfu').mono fun e w' ⟨h1, h2⟩ => ⟨by rw [h1, hfz]; simp [hz], h2⟩
  have kR3' := Rg.hid kR6
  have kO3' := Rg.hid kO6
  have hS3' := Rg.hid hS6
  have hO3' := Rg.hid hO6
  have hb3' := Rg.hid hb6
  clear kB6 kO6 kR6 hS6 hO6 hb6 HB hdO hd0 hwO hop hfz hfu hfu' hz
  go_upto_region 7 with (go_at_call 56; refine (HB'.out _).mono ?_; rintro e w4 ⟨rfl, b4⟩)
  have kE5 : Rg.Bk w4.heap.size [.slice (some ⟨gs, 0, none⟩) SN cs, .slice (some ⟨go, 0, none⟩) ON co, .int .i64 cap, .int .i64 fz, .bool false] 28 (w4.alloc (.cells #[.slice (some ⟨gs, 0, none⟩) SN cs, .slice (some ⟨go, 0, none⟩) ON co, .int .i64 cap, .int .i64 fz, .bool false] 28)) := Rg.Bk.new rfl
  have kR5 := (kR3'.out.below b4 kR3'.out.lt).old (.cells #[.slice (some ⟨gs, 0, none⟩) SN cs, .slice (some ⟨go, 0, none⟩) ON co, .int .i64 cap, .int .i64 fz, .bool false] 28)
  have b5 := Rg.chain b4 (Rg.al1 w4 (.cells #[.slice (some ⟨gs, 0, none⟩) SN cs, .slice (some ⟨go, 0, none⟩) ON co, .int .i64 cap, .int .i64 fz, .bool false] 28))
  have hS5 := hS3'.out.below b5
  have hO5 := hO3'.out.below b5
  have kO5 := kO3'.out.below b5 kO3'.out.lt
  have hgE : go ≠ w4.heap.size := fun h => by have := (hO3'.out.below b4).lt; omega
  have hb5 := Rg.chain hb3'.out b5
  have hEw : w.heap.size ≤ w4.heap.size := Nat.le_trans hb3'.out.size b4.size
  have hER : w4.heap.size ≠ R := fun h => by have := (kR3'.out.below b4 kR3'.out.lt).lt; omega
  clear b4 b5 hO3' kO3' kR3' hS3' hb3' HB' z0 z1 z2 z3 z4
  generalize World.alloc _ _ = w5 at *
  generalize w4.heap.size = E at *
  obtain ⟨j0, hj, hy0, hy1, hy2⟩ := infoOp'
  have hRl5 := kR5.lt
  have hEl5 := kE5.lt
  have hgl5 := hO5.lt
  have hsl5 : gs < w5.heap.size := hS5.some.1
  have kE6 := kE5.old (.cells #[.int .i64 1, .string n, .string t, .string x] 56)
  have kR6 := kR5.old (.cells #[.int .i64 1, .string n, .string t, .string x] 56)
  have hO6 := hO5.below (Rg.al1 w5 (.cells #[.int .i64 1, .string n, .string t, .string x] 56))
  have hS6 := hS5.below (Rg.al1 w5 (.cells #[.int .i64 1, .string n, .string t, .string x] 56))
  have hb6 := Rg.chain hb5 (Rg.al1 w5 (.cells #[.int .i64 1, .string n, .string t, .string x] 56))
  obtain ⟨g9, cap9, rest9, w9, hap9, hown9, _, hb9, hoth9, hg9⟩ := hO6.append (P := Try.prog) ⟨1, n, t, x⟩ 26 26 j0 _ 56 Try.underlying26 hj hy0 hy1 hy2 rfl ⟨w5.heap.size, 0, none⟩ 1 (Rg.At.add (fun i u hu => by rw [Nat.zero_add, (Rg.Bk.new (C := [.int .i64 1, .string n, .string t, .string x]) (ty := 56) rfl).cell i]; exact hu)) hb6.size (by have := hON.out; omega) (by have := hON.out; unfold maxLen; omega)
  rw [← hON.out] at hap9
  have hgE9 : g9 ≠ E := by simp at hg9; omega
  have hgR9 : g9 ≠ R := by simp at hg9; omega
  have kE9 : Rg.Bk E [.slice (some ⟨gs, 0, none⟩) SN cs, .slice (some ⟨go, 0, none⟩) ON co, .int .i64 cap, .int .i64 fz, .bool false] 28 w9 := kE6.same (hoth9 E (by simp; omega) (Ne.symm hgE))
  have kR9 := kR6.same (hoth9 R (by simp; omega) (Ne.symm hgR))
  have hS9 := row_same hS6 (hoth9 gs (by simp; omega) hne2) hb9.size
  have hb9w := hb6.trans hb9
  have hD9 : DAt w9 (.agg #[.slice (some ⟨gs, 0, none⟩) SN cs, .slice (some ⟨g9, 0, none⟩) (ON + 1) cap9, .int .i64 cap, .int .i64 fz, .bool false]) ⟨safe, ops ++ [⟨1, n, t, x⟩], cap, fz, false⟩ := by
    rw [hSN.out, hON.out]
    exact ⟨some ⟨gs, 0, none⟩, cs, some ⟨g9, 0, none⟩, cap9, by simp [dval], hS9, hown9.toRow, by rw [← hSN.out]; exact hcs2, hown9.le⟩
  have hap9 : Hid ((Builtin.append_ #[26, 26] 26 #[.slice (some ⟨go, 0, none⟩) ON co, .slice (some ⟨w5.heap.size, 0, none⟩) 1 1]).run Try.prog (w5.alloc (.cells #[.int .i64 1, .string n, .string t, .string x] 56)) = .ok (.slice (some ⟨g9, 0, none⟩) (ON + 1) cap9) w9) := hap9
  have z1 : w5.cell? ⟨E, 1, none⟩ = some (.slice (some ⟨go, 0, none⟩) ON co) := kE5.cell 1
  have z1' : w9.cell? ⟨E, 1, none⟩ = some (.slice (some ⟨go, 0, none⟩) ON co) := kE9.cell 1
  have zf := kE9.thaw
  have q0 : w5.cell? ⟨O, 0, none⟩ = some (.int .i64 1) := kO5.cell 0
  have q1 : w5.cell? ⟨O, 1, none⟩ = some (.string n) := kO5.cell 1
  have q2 : w5.cell? ⟨O, 2, none⟩ = some (.string t) := kO5.cell 2
  have q3 : w5.cell? ⟨O, 3, none⟩ = some (.string x) := kO5.cell 3
  have kE10 : Rg.Bk E [.slice (some ⟨gs, 0, none⟩) SN cs, .slice (some ⟨g9, 0, none⟩) (ON + 1) cap9, .int .i64 cap, .int .i64 fz, .bool false] 28 (w9.setCell ⟨E, 1, none⟩ (.slice (some ⟨g9, 0, none⟩) (ON + 1) cap9)) := kE9.set 1 (.slice (some ⟨g9, 0, none⟩) (ON + 1) cap9)
  have o10 := Rg.Only.setCell w9 E 1 (.slice (some ⟨g9, 0, none⟩) (ON + 1) cap9)
  have kR10 := Rg.hid (kR9.same (o10.block R (Ne.symm hER)))
  have hD10 := Rg.hid (hD9.only kE9 plainD o10)
  have hb10 := Rg.hid (hb9w.trans (o10.bel hEw))
  replace kE10 := Rg.hid kE10
  clear hj hy0 hy1 hy2 kE5 kR5 hO5 kO5 hS5 hb5 kE6 kR6 hO6 hS6 hb6 hown9 hb9 hoth9 hg9 kE9 kR9 hS9 hb9w hD9 o10 hSN hON hRl5 hEl5 hgl5 hsl5
  go_upto_region 8 with (at_builtin; refine Rg.wpList_append_run rfl (.tmp 38) (.tmp 40) 26 rfl _ _ rfl rfl _ _ hap9.out ?_)
  replace kE10 := kE10.out
  replace kR10 := kR10.out
  replace hD10 := hD10.out
  replace hb10 := hb10.out
  clear z1 z1' zf q0 q1 q2 q3 hap9
  generalize World.setCell _ _ _ = w10 at *
  obtain ⟨kE, oE⟩ := Rg.ret5 kR10 rfl (.slice (some ⟨gs, 0, none⟩) SN cs) (.slice (some ⟨g9, 0, none⟩) (ON + 1) cap9) (.int .i64 cap) (.int .i64 fz) (.bool false)
  have hDE := hD10.only kR10 plainZ oE
  have post := Rg.hid (⟨_, rfl, hDE, hb10.trans (oE.bel hRw)⟩ : DPost w (_, 0) (.returned _) _)
  replace kE := Rg.hid kE
  have d0' : w10.cell? ⟨E, 0, none⟩ = some (.slice (some ⟨gs, 0, none⟩) SN cs) := kE10.cell 0
  have d1' : w10.cell? ⟨E, 1, none⟩ = some (.slice (some ⟨g9, 0, none⟩) (ON + 1) cap9) := kE10.cell 1
  have d2' : w10.cell? ⟨E, 2, none⟩ = some (.int .i64 cap) := kE10.cell 2
  have d3' : w10.cell? ⟨E, 3, none⟩ = some (.int .i64 fz) := kE10.cell 3
  have d4' : w10.cell? ⟨E, 4, none⟩ = some (.bool false) := kE10.cell 4
  have r0 : w10.cell? ⟨R, 0, none⟩ = some (.slice none 0 0) := kR10.cell 0
  have r1 : w10.cell? ⟨R, 1, none⟩ = some (.slice none 0 0) := kR10.cell 1
  have r2 : w10.cell? ⟨R, 2, none⟩ = some (.int .i64 0) := kR10.cell 2
  have r3 : w10.cell? ⟨R, 3, none⟩ = some (.int .i64 0) := kR10.cell 3
  have r4 : w10.cell? ⟨R, 4, none⟩ = some (.bool false) := kR10.cell 4
  have rf := kR10.thaw
  clear oE kR10 hDE hD10 kE10
  go_wp2
  replace kE := kE.out
  replace post := post.out
  generalize World.setCell _ _ _ = WE at *
  exact bodyPost_ret (v := .tuple #[.agg #[.slice (some ⟨gs, 0, none⟩) SN cs, .slice (some ⟨g9, 0, none⟩) (ON + 1) cap9, .int .i64 cap, .int .i64 fz, .bool false], .int .i64 0]) (by simp [results, Try.results54, go_sem, kE.cell]) rfl post

set_option maxHeartbeats 4000000 in
set_option maxRecDepth 100000 in
theorem rdo_2 (v : Value) (d : Dsk.Dk) (n t x : ByteArray) (w : World) (hd : Dsk.Ok d) (hdn : d.down = false) (hw : Dsk.used d.safe + Dsk.wt d.ops + x.size + 16 ≤ 10000000000) (h : DAt w v d) :
    Calls Try.prog 54 #[v, .agg #[.int .i64 2, .string n, .string t, .string x]] w fun e w' => DPost w (Dsk.dod d ⟨2, n, t, x⟩) e w' := by
  have HO : Hid (∀ W, Below w.heap.size w W → Calls Try.prog 52 #[v] W fun e w' => OwnDP2 W d e w') := fun W hW => rown2_any v d W hd (h.below hW)
  obtain ⟨j0, hj, hy0, hy1, hy2⟩ := infoOp'
  have hdo1 : Hid (d.cap < (Dsk.used (Dsk.files (Dsk.note d ⟨2, n, t, x⟩)) : Int) → Dsk.dod d ⟨2, n, t, x⟩ = (d, 8)) := fun h => by unfold Dsk.dod; rw [if_pos ⟨by simp, h⟩]
  have hdo : Hid (¬ d.cap < (Dsk.used (Dsk.files (Dsk.note d ⟨2, n, t, x⟩)) : Int) → Dsk.dod d ⟨2, n, t, x⟩ = Dsk.operate d ⟨2, n, t, x⟩) := fun h => by unfold Dsk.dod; rw [if_neg (fun q => h q.2)]
  have hfu := hd.fuse
  have hfu' := hd.fuse'
  have hops := hd.ops
  have HB := Rg.hid rburn_any
  have hdO := Rg.hid hd
  have hnt := Rg.hid (hd.note ⟨2, n, t, x⟩ hw)
  have hfn := Rg.hid (Dsk.files_note hdn ⟨2, n, t, x⟩)
  have hwO := Rg.hid hw
  obtain ⟨sa, sc, oa, oc, rfl, hS, hO, hsc, hoc⟩ := h
  generalize Dsk.dod d ⟨2, n, t, x⟩ = r at *
  obtain ⟨safe, ops, cap, fuse, down⟩ := d
  unfold dval at *
  dsimp only at *
  subst hdn
  obtain ⟨d0, hd0⟩ : ∃ d0 : Dsk.Dk, d0 = ⟨safe, ops, cap, fuse, false⟩ := ⟨_, rfl⟩
  rw [← hd0] at HO hnt hfn hdO hdo hdo1
  replace hd0 := Rg.hid hd0
  have hHO : Hid (∀ W e w', OwnDP2 W d0 e w' → ∃ gs cs go co rest, e = .returned (.agg #[.slice (some ⟨gs, 0, none⟩) safe.length cs, .slice (some ⟨go, 0, none⟩) ops.length co, .int .i64 cap, .int .i64 fuse, .bool false]) ∧ fileE.Row w' (some ⟨gs, 0, none⟩) safe ∧ safe.length ≤ cs ∧ opE.Own W.heap.size w' go co ops rest ∧ gs ≠ go ∧ Below W.heap.size W w') := fun W e w' h => by rw [hd0.out] at h; exact h
  obtain ⟨SN, hSN⟩ : ∃ SN, SN = safe.length := ⟨_, rfl⟩
  obtain ⟨ON, hON⟩ : ∃ ON, ON = ops.length := ⟨_, rfl⟩
  rw [← hSN, ← hON] at hHO HO
  rw [← hON] at hops
  rw [← hSN, ← hON]
  replace hSN := Rg.hid hSN
  replace hON := Rg.hid hON
  clear hS hO hd hsc hoc
  have kB1 : Rg.Bk w.heap.size [.slice sa SN sc, .slice oa ON oc, .int .i64 cap, .int .i64 fuse, .bool false] 28 (((w.alloc (.cells #[.slice sa SN sc, .slice oa ON oc, .int .i64 cap, .int .i64 fuse, .bool false] 28)).alloc (.cells #[.int .i64 2, .string n, .string t, .string x] 56)).alloc (.cells #[.slice none 0 0, .slice none 0 0, .int .i64 0, .int .i64 0, .bool false] 28)) := ((Rg.Bk.new rfl).old _).old _
  have kO1 : Rg.Bk (w.heap.size + 1) [.int .i64 2, .string n, .string t, .string x] 56 (((w.alloc (.cells #[.slice sa SN sc, .slice oa ON oc, .int .i64 cap, .int .i64 fuse, .bool false] 28)).alloc (.cells #[.int .i64 2, .string n, .string t, .string x] 56)).alloc (.cells #[.slice none 0 0, .slice none 0 0, .int .i64 0, .int .i64 0, .bool false] 28)) := (Rg.Bk.new (by simp)).old _
  have kR1 : Rg.Bk (w.heap.size + 1 + 1) [.slice none 0 0, .slice none 0 0, .int .i64 0, .int .i64 0, .bool false] 28 (((w.alloc (.cells #[.slice sa SN sc, .slice oa ON oc, .int .i64 cap, .int .i64 fuse, .bool false] 28)).alloc (.cells #[.int .i64 2, .string n, .string t, .string x] 56)).alloc (.cells #[.slice none 0 0, .slice none 0 0, .int .i64 0, .int .i64 0, .bool false] 28)) := Rg.Bk.new (by simp)
  have hb1 := Rg.al3 w (.cells #[.slice sa SN sc, .slice oa ON oc, .int .i64 cap, .int .i64 fuse, .bool false] 28) (.cells #[.int .i64 2, .string n, .string t, .string x] 56) (.cells #[.slice none 0 0, .slice none 0 0, .int .i64 0, .int .i64 0, .bool false] 28)
  go_enter Try.func54, Try.ntmps54
  go_upto_region 1 with fail
  generalize World.alloc _ _ = w1 at *
  obtain ⟨B, hB⟩ : ∃ B, B = w.heap.size := ⟨_, rfl⟩
  obtain ⟨O, hOd⟩ : ∃ O, O = w.heap.size + 1 := ⟨_, rfl⟩
  obtain ⟨R, hR⟩ : ∃ R, R = w.heap.size + 1 + 1 := ⟨_, rfl⟩
  rw [← hR] at kR1 ⊢
  rw [← hOd] at kO1 ⊢
  rw [← hB] at kB1 ⊢
  have hBR : B ≠ R := by omega
  have hBO : B ≠ O := by omega
  have hOR : O ≠ R := by omega
  have hBw : w.heap.size ≤ B := by omega
  have hRw : w.heap.size ≤ R := by omega
  have hBl : B < w1.heap.size := kB1.lt
  have hOl : O < w1.heap.size := kO1.lt
  have hRl : R < w1.heap.size := kR1.lt
  clear hB hR hOd
  have c0 : w1.cell? ⟨B, 0, none⟩ = some (.slice sa SN sc) := kB1.cell 0
  have c1 : w1.cell? ⟨B, 1, none⟩ = some (.slice oa ON oc) := kB1.cell 1
  have c2 : w1.cell? ⟨B, 2, none⟩ = some (.int .i64 cap) := kB1.cell 2
  have c3 : w1.cell? ⟨B, 3, none⟩ = some (.int .i64 fuse) := kB1.cell 3
  have c4 : w1.cell? ⟨B, 4, none⟩ = some (.bool false) := kB1.cell 4
  have kB1' := Rg.hid kB1
  have kO1' := Rg.hid kO1
  have kR1' := Rg.hid kR1
  clear kB1 kR1 kO1
  go_upto_region 2 with (go_at_call 52; refine (HO.out _ hb1).mono ?_; rintro e w2 hq; obtain ⟨gs, cs, go, co, rest, rfl, hS2, hcs2, hO2, hne2, b2⟩ := hHO.out _ _ _ hq; clear hq; have kB2 := kB1'.out.below b2 kB1'.out.lt; have y0 := kB2.cell 0; have y1 := kB2.cell 1; have y2 := kB2.cell 2; have y3 := kB2.cell 3; have y4 := kB2.cell 4; simp only [List.getElem?_cons_zero, List.getElem?_cons_succ] at y0 y1 y2 y3 y4; have yf := kB2.thaw)
  have kR2 := kR1'.out.below b2 kR1'.out.lt
  have kO2 := kO1'.out.below b2 kO1'.out.lt
  have hb2 := Rg.chain hb1 b2
  have hgo1 := hO2.new
  have hgB : go ≠ B := by omega
  have hgR : go ≠ R := by omega
  have hgO : go ≠ O := by omega
  obtain ⟨kB3, oB⟩ := Rg.ret5 kB2 rfl (.slice (some ⟨gs, 0, none⟩) SN cs) (.slice (some ⟨go, 0, none⟩) ON co) (.int .i64 cap) (.int .i64 fuse) (.bool false)
  have kR3 := kR2.same (oB.block R (Ne.symm hBR))
  have kO3 := kO2.same (oB.block O (Ne.symm hBO))
  have hS3 := row_only hS2 kB2 plainD oB
  have hO3 := rebase (hO2.same (oB.block go hgB)) hb1.size
  have hb3 := hb2.trans (oB.bel hBw)
  clear y0 y1 y2 y3 y4 yf kB2 kR2 kO2 oB hS2 hO2 b2 hb2 HO c0 c1 c2 c3 c4 kB1' kR1' kO1' hb1 hHO hgo1
  generalize World.setCell _ _ _ = w3 at *
  have hD3 : DAt w3 (.agg #[.slice (some ⟨gs, 0, none⟩) SN cs, .slice (some ⟨go, 0, none⟩) ON co, .int .i64 cap, .int .i64 fuse, .bool false]) d0 := by
    rw [hd0.out, hSN.out, hON.out]
    exact ⟨some ⟨gs, 0, none⟩, cs, some ⟨go, 0, none⟩, co, rfl, hS3, hO3.toRow, by rw [← hSN.out]; exact hcs2, hO3.le⟩
  have hdn0 : d0.down = false := by rw [hd0.out]
  have hfcells : Hid (∀ W, Below w3.heap.size w3 W → W.cell? ⟨B, 0, none⟩ = some (.slice (some ⟨gs, 0, none⟩) SN cs) ∧ W.cell? ⟨B, 1, none⟩ = some (.slice (some ⟨go, 0, none⟩) ON co) ∧ W.cell? ⟨B, 2, none⟩ = some (.int .i64 cap) ∧ W.cell? ⟨B, 3, none⟩ = some (.int .i64 fuse) ∧ W.cell? ⟨B, 4, none⟩ = some (.bool false) ∧ W.cell? ⟨O, 0, none⟩ = some (.int .i64 2) ∧ W.cell? ⟨O, 1, none⟩ = some (.string n) ∧ W.cell? ⟨O, 2, none⟩ = some (.string t) ∧ W.cell? ⟨O, 3, none⟩ = some (.string x)) := fun W hW => by
    have k1 := kB3.below hW kB3.lt
    have k2 := kO3.below hW kO3.lt
    exact ⟨k1.cell 0, k1.cell 1, k1.cell 2, k1.cell 3, k1.cell 4, k2.cell 0, k2.cell 1, k2.cell 2, k2.cell 3⟩
  have hul := hdO.out.files
  have hll := Dsk.len_used (Dsk.files d0)
  have hul2 := hnt.out.files
  rw [hfn.out] at hul2 hdo hdo1
  have hxs : Dsk.used (Dsk.files d0) + x.size ≤ 1000000000000 := by have := hwO.out; omega
  obtain ⟨FL, hFL⟩ : ∃ FL, FL = Dsk.files d0 := ⟨_, rfl⟩
  obtain ⟨FN, hFN⟩ : ∃ FN, FN = FL.length := ⟨_, rfl⟩
  obtain ⟨AL, hAL⟩ : ∃ AL, AL = Dsk.after FL ⟨2, n, t, x⟩ := ⟨_, rfl⟩
  obtain ⟨AN, hAN⟩ : ∃ AN, AN = AL.length := ⟨_, rfl⟩
  obtain ⟨U, hU⟩ : ∃ U, U = Dsk.used AL := ⟨_, rfl⟩
  rw [← hFL] at hul hll hxs hul2 hdo hdo1
  rw [← hAL] at hul2 hdo hdo1
  rw [← hU] at hdo hdo1
  have HF : Hid (∀ W, Below w3.heap.size w3 W → Calls Try.prog 20 #[.agg #[.slice (some ⟨gs, 0, none⟩) SN cs, .slice (some ⟨go, 0, none⟩) ON co, .int .i64 cap, .int .i64 fuse, .bool false]] W fun e w' => ∃ fg fc, e = .returned (.slice (some ⟨fg, 0, none⟩) FN fc) ∧ Hid (fileE.Row w' (some ⟨fg, 0, none⟩) FL ∧ FL.length ≤ fc) ∧ Below w3.heap.size w3 w' ∧ w'.cell? ⟨B, 0, none⟩ = some (.slice (some ⟨gs, 0, none⟩) SN cs) ∧ w'.cell? ⟨B, 1, none⟩ = some (.slice (some ⟨go, 0, none⟩) ON co) ∧ w'.cell? ⟨B, 2, none⟩ = some (.int .i64 cap) ∧ w'.cell? ⟨B, 3, none⟩ = some (.int .i64 fuse) ∧ w'.cell? ⟨B, 4, none⟩ = some (.bool false) ∧ w'.cell? ⟨O, 0, none⟩ = some (.int .i64 2) ∧ w'.cell? ⟨O, 1, none⟩ = some (.string n) ∧ w'.cell? ⟨O, 2, none⟩ = some (.string t) ∧ w'.cell? ⟨O, 3, none⟩ = some (.string x)) := fun W hW => (rfiles_up _ d0 W hdO.out hdn0 (hD3.below hW)).mono fun e w' ⟨fg, fc, h1, h2, h3, h4⟩ => ⟨fg, fc, by rw [h1, hFN, hFL], ⟨by rw [hFL]; exact h2, by rw [hFL]; exact h3⟩, Rg.chain hW h4, hfcells.out _ (Rg.chain hW h4)⟩
  have HA : Hid (∀ W fg fc, Below w3.heap.size w3 W → Hid (fileE.Row W (some ⟨fg, 0, none⟩) FL ∧ FL.length ≤ fc) → Calls Try.prog 46 #[.slice (some ⟨fg, 0, none⟩) FN fc, .agg #[.int .i64 2, .string n, .string t, .string x]] W fun e w' => ∃ ag ac, e = .returned (.slice (some ⟨ag, 0, none⟩) AN ac) ∧ Hid (fileE.Row w' (some ⟨ag, 0, none⟩) AL) ∧ Below w3.heap.size w3 w' ∧ w'.cell? ⟨B, 0, none⟩ = some (.slice (some ⟨gs, 0, none⟩) SN cs) ∧ w'.cell? ⟨B, 1, none⟩ = some (.slice (some ⟨go, 0, none⟩) ON co) ∧ w'.cell? ⟨B, 2, none⟩ = some (.int .i64 cap) ∧ w'.cell? ⟨B, 3, none⟩ = some (.int .i64 fuse) ∧ w'.cell? ⟨B, 4, none⟩ = some (.bool false) ∧ w'.cell? ⟨O, 0, none⟩ = some (.int .i64 2) ∧ w'.cell? ⟨O, 1, none⟩ = some (.string n) ∧ w'.cell? ⟨O, 2, none⟩ = some (.string t) ∧ w'.cell? ⟨O, 3, none⟩ = some (.string x)) := fun W fg fc hW hq => by
    have := rafter_any fg fc FL 2 n t x W (by omega) hxs hq.out.2 hq.out.1
    rw [← hFN] at this
    exact this.mono fun e w' ⟨ag, ac, h1, h2, h3, h4⟩ => ⟨ag, ac, by rw [h1, hAN, hAL], by rw [hAL]; exact h2, Rg.chain hW h4, hfcells.out _ (Rg.chain hW h4)⟩
  have HY : Hid (∀ W ag ac, Below w3.heap.size w3 W → Hid (fileE.Row W (some ⟨ag, 0, none⟩) AL) → Calls Try.prog 44 #[.slice (some ⟨ag, 0, none⟩) AN ac] W fun e w' => e = .returned (.int .i64 U) ∧ Below w3.heap.size w3 w' ∧ w'.cell? ⟨B, 0, none⟩ = some (.slice (some ⟨gs, 0, none⟩) SN cs) ∧ w'.cell? ⟨B, 1, none⟩ = some (.slice (some ⟨go, 0, none⟩) ON co) ∧ w'.cell? ⟨B, 2, none⟩ = some (.int .i64 cap) ∧ w'.cell? ⟨B, 3, none⟩ = some (.int .i64 fuse) ∧ w'.cell? ⟨B, 4, none⟩ = some (.bool false) ∧ w'.cell? ⟨O, 0, none⟩ = some (.int .i64 2) ∧ w'.cell? ⟨O, 1, none⟩ = some (.string n) ∧ w'.cell? ⟨O, 2, none⟩ = some (.string t) ∧ w'.cell? ⟨O, 3, none⟩ = some (.string x)) := fun W ag ac hW hq => by
    have := rbytes_any (some ⟨ag, 0, none⟩) ac AL W hul2 hq.out
    rw [← hAN, ← hU] at this
    exact this.mono fun e w' ⟨h1, h4⟩ => ⟨h1, Rg.chain hW h4, hfcells.out _ (Rg.chain hW h4)⟩
  obtain ⟨z0, z1, z2, z3, z4, q0, q1, q2, q3⟩ := hfcells.out w3 (Below.refl _ _)
  have hU0 : U ≤ 10000000000 := by rw [hU]; exact hul2
  replace kB3 := Rg.hid kB3
  replace kO3 := Rg.hid kO3
  replace kR3 := Rg.hid kR3
  replace hS3 := Rg.hid hS3
  replace hO3 := Rg.hid hO3
  replace hb3 := Rg.hid hb3
  clear hul hll hul2 hxs hFL hFN hAL hAN hU hdn0 hD3 hfcells hnt hfn hj hy0 hy1 hy2
  go_region_held3 (fun w' => w'.cell? ⟨B, 0, none⟩ = some (.slice (some ⟨gs, 0, none⟩) SN cs) ∧ w'.cell? ⟨B, 1, none⟩ = some (.slice (some ⟨go, 0, none⟩) ON co) ∧ w'.cell? ⟨B, 2, none⟩ = some (.int .i64 cap) ∧ w'.cell? ⟨B, 3, none⟩ = some (.int .i64 fuse) ∧ w'.cell? ⟨B, 4, none⟩ = some (.bool false) ∧ w'.cell? ⟨O, 0, none⟩ = some (.int .i64 2) ∧ w'.cell? ⟨O, 1, none⟩ = some (.string n) ∧ w'.cell? ⟨O, 2, none⟩ = some (.string t) ∧ w'.cell? ⟨O, 3, none⟩ = some (.string x)) (go_keep) (first
    | (go_at_call 44; refine (HY.out _ _ _ b5 hAr).mono ?_; rintro e w6 ⟨rfl, b6, qb0, qb1, qb2, qb3, qb4, qo0, qo1, qo2, qo3⟩)
    | (go_at_call 46; refine (HA.out _ _ _ b4 hFr).mono ?_; rintro e w5 ⟨ag, ac, rfl, hAr, b5, sb0, sb1, sb2, sb3, sb4, so0, so1, so2, so3⟩)
    | (go_at_call 20; refine (HF.out _ ?_).mono ?_; (first | exact Below.refl _ _ | exact (Below.refl _ _).drew); rintro e w4 ⟨fg, fc, rfl, hFr, b4, pb0, pb1, pb2, pb3, pb4, po0, po1, po2, po3⟩))
  clear z0 z1 z2 z3 z4 q0 q1 q2 q3 HF HA HY hAr hFr pb0 pb1 pb2 pb3 pb4 po0 po1 po2 po3 sb0 sb1 sb2 sb3 sb4 so0 so1 so2 so3 b4 b5 qb0 qb1 qb2 qb3 qb4 qo0 qo1 qo2 qo3 hU0
  have kB6 := kB3.out.below b6 kB3.out.lt
  have kO6 := kO3.out.below b6 kO3.out.lt
  have kR6 := kR3.out.below b6 kR3.out.lt
  have hS6 := hS3.out.below b6
  have hO6 := hO3.out.below b6
  have hb6 := Rg.chain hb3.out b6
  clear b6 kB3 kO3 kR3 hS3 hO3 hb3
  skip
  by_cases hzz : cap < (U : Int)
  · have dz : decide (cap < (U : Int)) = true := by simp [hzz]
    have hch := hdo1.out hzz
    subst hch
    have hD6 : DAt w6 (.agg #[.slice (some ⟨gs, 0, none⟩) SN cs, .slice (some ⟨go, 0, none⟩) ON co, .int .i64 cap, .int .i64 fuse, .bool false]) d0 := by
      rw [hd0.out, hSN.out, hON.out]
      exact ⟨some ⟨gs, 0, none⟩, cs, some ⟨go, 0, none⟩, co, rfl, hS6, hO6.toRow, by rw [← hSN.out]; exact hcs2, hO6.le⟩
    clear hdo1 hdo HB hdO hd0 hSN hON hwO hS6 hO6 kO6
    go_upto_region 3 with fail
    obtain ⟨kE, oE⟩ := Rg.ret5 kR6 rfl (.slice (some ⟨gs, 0, none⟩) SN cs) (.slice (some ⟨go, 0, none⟩) ON co) (.int .i64 cap) (.int .i64 fuse) (.bool false)
    have hDE := hD6.only kR6 plainZ oE
    have post := Rg.hid (⟨_, rfl, hDE, hb6.trans (oE.bel hRw)⟩ : DPost w (_, 8) (.returned _) _)
    replace kE := Rg.hid kE
    have d0' : w6.cell? ⟨B, 0, none⟩ = some (.slice (some ⟨gs, 0, none⟩) SN cs) := kB6.cell 0
    have d1' : w6.cell? ⟨B, 1, none⟩ = some (.slice (some ⟨go, 0, none⟩) ON co) := kB6.cell 1
    have d2' : w6.cell? ⟨B, 2, none⟩ = some (.int .i64 cap) := kB6.cell 2
    have d3' : w6.cell? ⟨B, 3, none⟩ = some (.int .i64 fuse) := kB6.cell 3
    have d4' : w6.cell? ⟨B, 4, none⟩ = some (.bool false) := kB6.cell 4
    have r0 : w6.cell? ⟨R, 0, none⟩ = some (.slice none 0 0) := kR6.cell 0
    have r1 : w6.cell? ⟨R, 1, none⟩ = some (.slice none 0 0) := kR6.cell 1
    have r2 : w6.cell? ⟨R, 2, none⟩ = some (.int .i64 0) := kR6.cell 2
    have r3 : w6.cell? ⟨R, 3, none⟩ = some (.int .i64 0) := kR6.cell 3
    have r4 : w6.cell? ⟨R, 4, none⟩ = some (.bool false) := kR6.cell 4
    have rf := kR6.thaw
    clear oE kR6 hDE hD6 kB6
    go_wp2
    replace kE := kE.out
    replace post := post.out
    generalize World.setCell _ _ _ = WE at *
    exact bodyPost_ret (v := .tuple #[.agg #[.slice (some ⟨gs, 0, none⟩) SN cs, .slice (some ⟨go, 0, none⟩) ON co, .int .i64 cap, .int .i64 fuse, .bool false], .int .i64 8]) (by simp [results, Try.results54, go_sem, kE.cell]) rfl post
  have dz : decide (cap < (U : Int)) = false := by simp; omega
  have hch := hdo.out (by omega)
  clear hdo1 hdo
  have z0 : w6.cell? ⟨B, 0, none⟩ = some (.slice (some ⟨gs, 0, none⟩) SN cs) := kB6.cell 0
  have z1 : w6.cell? ⟨B, 1, none⟩ = some (.slice (some ⟨go, 0, none⟩) ON co) := kB6.cell 1
  have z2 : w6.cell? ⟨B, 2, none⟩ = some (.int .i64 cap) := kB6.cell 2
  have z3 : w6.cell? ⟨B, 3, none⟩ = some (.int .i64 fuse) := kB6.cell 3
  have z4 : w6.cell? ⟨B, 4, none⟩ = some (.bool false) := kB6.cell 4
  go_upto_region 4 with fail
  rw [hd0.out] at hch
  by_cases hz : fuse = 0
  · subst hz
    have hop : Dsk.operate ⟨safe, ops, cap, 0, false⟩ ⟨2, n, t, x⟩ = (⟨safe, ops, cap, 0, true⟩, 9) := rfl
    rw [hop] at hch
    subst hch
    have HB' : Hid (∀ W, Calls Try.prog 56 #[.agg #[.slice (some ⟨gs, 0, none⟩) SN cs, .slice (some ⟨go, 0, none⟩) ON co, .int .i64 cap, .int .i64 0, .bool false]] W fun e w' => e = .returned (.tuple #[.agg #[.slice (some ⟨gs, 0, none⟩) SN cs, .slice (some ⟨go, 0, none⟩) ON co, .int .i64 cap, .int .i64 0, .bool true], .bool false]) ∧ Below W.heap.size W w') := fun W => (HB.out (some ⟨gs, 0, none⟩) SN cs (some ⟨go, 0, none⟩) ON co cap 0 false W (by omega) (by omega)).mono fun e w' ⟨h1, h2⟩ => ⟨by rw [h1]; simp, h2⟩
    have hD3' : Hid (DAt w6 (.agg #[.slice (some ⟨gs, 0, none⟩) SN cs, .slice (some ⟨go, 0, none⟩) ON co, .int .i64 cap, .int .i64 0, .bool true]) ⟨safe, ops, cap, 0, true⟩) := by
      rw [hSN.out, hON.out]
      exact ⟨some ⟨gs, 0, none⟩, cs, some ⟨go, 0, none⟩, co, rfl, hS6, hO6.toRow, by rw [← hSN.out]; exact hcs2, hO6.le⟩
    have kR3' := Rg.hid kR6
    have hb3' := Rg.hid hb6
    clear kB6 kO6 kR6 hS6 hO6 hb6 HB hdO hd0 hSN hON hwO hop
    go_upto_region 6 with (go_at_call 56; refine (HB'.out _).mono ?_; rintro e w4 ⟨rfl, b4⟩)
    have kE5 : Rg.Bk w4.heap.size [.slice (some ⟨gs, 0, none⟩) SN cs, .slice (some ⟨go, 0, none⟩) ON co, .int .i64 cap, .int .i64 0, .bool true] 28 (w4.alloc (.cells #[.slice (some ⟨gs, 0, none⟩) SN cs, .slice (some ⟨go, 0, none⟩) ON co, .int .i64 cap, .int .i64 0, .bool true] 28)) := Rg.Bk.new rfl
    have kR5 := (kR3'.out.below b4 kR3'.out.lt).old (.cells #[.slice (some ⟨gs, 0, none⟩) SN cs, .slice (some ⟨go, 0, none⟩) ON co, .int .i64 cap, .int .i64 0, .bool true] 28)
    have b5 := Rg.chain b4 (Rg.al1 w4 (.cells #[.slice (some ⟨gs, 0, none⟩) SN cs, .slice (some ⟨go, 0, none⟩) ON co, .int .i64 cap, .int .i64 0, .bool true] 28))
    have hD5 := hD3'.out.below b5
    have hb5 := Rg.chain hb3'.out b5
    have hEw : w.heap.size ≤ w4.heap.size := Nat.le_trans hb3'.out.size b4.size
    have hER : w4.heap.size ≠ R := fun h => by have := (kR3'.out.below b4 kR3'.out.lt).lt; omega
    clear b4 b5 kR3' hD3' hb3' HB' z0 z1 z2 z3 z4
    generalize World.alloc _ _ = w5 at *
    generalize w4.heap.size = E at *
    obtain ⟨kE, oE⟩ := Rg.ret5 kR5 rfl (.slice (some ⟨gs, 0, none⟩) SN cs) (.slice (some ⟨go, 0, none⟩) ON co) (.int .i64 cap) (.int .i64 0) (.bool true)
    have hDE := hD5.only kR5 plainZ oE
    have post := Rg.hid (⟨_, rfl, hDE, hb5.trans (oE.bel hRw)⟩ : DPost w (_, 9) (.returned _) _)
    replace kE := Rg.hid kE
    have d0' : w5.cell? ⟨E, 0, none⟩ = some (.slice (some ⟨gs, 0, none⟩) SN cs) := kE5.cell 0
    have d1' : w5.cell? ⟨E, 1, none⟩ = some (.slice (some ⟨go, 0, none⟩) ON co) := kE5.cell 1
    have d2' : w5.cell? ⟨E, 2, none⟩ = some (.int .i64 cap) := kE5.cell 2
    have d3' : w5.cell? ⟨E, 3, none⟩ = some (.int .i64 0) := kE5.cell 3
    have d4' : w5.cell? ⟨E, 4, none⟩ = some (.bool true) := kE5.cell 4
    have r0 : w5.cell? ⟨R, 0, none⟩ = some (.slice none 0 0) := kR5.cell 0
    have r1 : w5.cell? ⟨R, 1, none⟩ = some (.slice none 0 0) := kR5.cell 1
    have r2 : w5.cell? ⟨R, 2, none⟩ = some (.int .i64 0) := kR5.cell 2
    have r3 : w5.cell? ⟨R, 3, none⟩ = some (.int .i64 0) := kR5.cell 3
    have r4 : w5.cell? ⟨R, 4, none⟩ = some (.bool false) := kR5.cell 4
    have rf := kR5.thaw
    clear oE kR5 hDE hD5 kE5
    go_wp2
    replace kE := kE.out
    replace post := post.out
    generalize World.setCell _ _ _ = WE at *
    exact bodyPost_ret (v := .tuple #[.agg #[.slice (some ⟨gs, 0, none⟩) SN cs, .slice (some ⟨go, 0, none⟩) ON co, .int .i64 cap, .int .i64 0, .bool true], .int .i64 9]) (by simp [results, Try.results54, go_sem, kE.cell]) rfl post
  obtain ⟨fz, hfz⟩ : ∃ fz, fz = if fuse > 0 then fuse - 1 else fuse := ⟨_, rfl⟩
  have hop : Dsk.operate ⟨safe, ops, cap, fuse, false⟩ ⟨2, n, t, x⟩ = (⟨safe, ops ++ [⟨2, n, t, x⟩], cap, fz, false⟩, 0) := by
    unfold Dsk.operate
    rw [if_neg hz, Dsk.burn_eq, hfz]
    rfl
  rw [hop] at hch
  subst hch
  have HB' : Hid (∀ W, Calls Try.prog 56 #[.agg #[.slice (some ⟨gs, 0, none⟩) SN cs, .slice (some ⟨go, 0, none⟩) ON co, .int .i64 cap, .int .i64 fuse, .bool false]] W fun e w' => e = .returned (.tuple #[.agg #[.slice (some ⟨gs, 0, none⟩) SN cs, .slice (some ⟨go, 0, none⟩) ON co, .int .i64 cap, .int .i64 fz, .bool false], .bool true]) ∧ Below W.heap.size W w') := fun W => (HB.out (some ⟨gs, 0, none⟩) SN cs (some ⟨go, 0, none⟩) ON co cap fuse false W hfu hfu').mono fun e w' ⟨h1, h2⟩ => ⟨by rw [h1, hfz]; simp [hz], h2⟩
  have kR3' := Rg.hid kR6
  have kO3' := Rg.hid kO6
  have hS3' := Rg.hid hS6
  have hO3' := Rg.hid hO6
  have hb3' := Rg.hid hb6
  clear kB6 kO6 kR6 hS6 hO6 hb6 HB hdO hd0 hwO hop hfz hfu hfu' hz
  go_upto_region 7 with (go_at_call 56; refine (HB'.out _).mono ?_; rintro e w4 ⟨rfl, b4⟩)
  have kE5 : Rg.Bk w4.heap.size [.slice (some ⟨gs, 0, none⟩) SN cs, .slice (some ⟨go, 0, none⟩) ON co, .int .i64 cap, .int .i64 fz, .bool false] 28 (w4.alloc (.cells #[.slice (some ⟨gs, 0, none⟩) SN cs, .slice (some ⟨go, 0, none⟩) ON co, .int .i64 cap, .int .i64 fz, .bool false] 28)) := Rg.Bk.new rfl
  have kR5 := (kR3'.out.below b4 kR3'.out.lt).old (.cells #[.slice (some ⟨gs, 0, none⟩) SN cs, .slice (some ⟨go, 0, none⟩) ON co, .int .i64 cap, .int .i64 fz, .bool false] 28)
  have b5 := Rg.chain b4 (Rg.al1 w4 (.cells #[.slice (some ⟨gs, 0, none⟩) SN cs, .slice (some ⟨go, 0, none⟩) ON co, .int .i64 cap, .int .i64 fz, .bool false] 28))
  have hS5 := hS3'.out.below b5
  have hO5 := hO3'.out.below b5
  have kO5 := kO3'.out.below b5 kO3'.out.lt
  have hgE : go ≠ w4.heap.size := fun h => by have := (hO3'.out.below b4).lt; omega
  have hb5 := Rg.chain hb3'.out b5
  have hEw : w.heap.size ≤ w4.heap.size := Nat.le_trans hb3'.out.size b4.size
  have hER : w4.heap.size ≠ R := fun h => by have := (kR3'.out.below b4 kR3'.out.lt).lt; omega
  clear b4 b5 hO3' kO3' kR3' hS3' hb3' HB' z0 z1 z2 z3 z4
  generalize World.alloc _ _ = w5 at *
  generalize w4.heap.size = E at *
  obtain ⟨j0, hj, hy0, hy1, hy2⟩ := infoOp'
  have hRl5 := kR5.lt
  have hEl5 := kE5.lt
  have hgl5 := hO5.lt
  have hsl5 : gs < w5.heap.size := hS5.some.1
  have kE6 := kE5.old (.cells #[.int .i64 2, .string n, .string t, .string x] 56)
  have kR6 := kR5.old (.cells #[.int .i64 2, .string n, .string t, .string x] 56)
  have hO6 := hO5.below (Rg.al1 w5 (.cells #[.int .i64 2, .string n, .string t, .string x] 56))
  have hS6 := hS5.below (Rg.al1 w5 (.cells #[.int .i64 2, .string n, .string t, .string x] 56))
  have hb6 := Rg.chain hb5 (Rg.al1 w5 (.cells #[.int .i64 2, .string n, .string t, .string x] 56))
  obtain ⟨g9, cap9, rest9, w9, hap9, hown9, _, hb9, hoth9, hg9⟩ := hO6.append (P := Try.prog) ⟨2, n, t, x⟩ 26 26 j0 _ 56 Try.underlying26 hj hy0 hy1 hy2 rfl ⟨w5.heap.size, 0, none⟩ 1 (Rg.At.add (fun i u hu => by rw [Nat.zero_add, (Rg.Bk.new (C := [.int .i64 2, .string n, .string t, .string x]) (ty := 56) rfl).cell i]; exact hu)) hb6.size (by have := hON.out; omega) (by have := hON.out; unfold maxLen; omega)
  rw [← hON.out] at hap9
  have hgE9 : g9 ≠ E := by simp at hg9; omega
  have hgR9 : g9 ≠ R := by simp at hg9; omega
  have kE9 : Rg.Bk E [.slice (some ⟨gs, 0, none⟩) SN cs, .slice (some ⟨go, 0, none⟩) ON co, .int .i64 cap, .int .i64 fz, .bool false] 28 w9 := kE6.same (hoth9 E (by simp; omega) (Ne.symm hgE))
  have kR9 := kR6.same (hoth9 R (by simp; omega) (Ne.symm hgR))
  have hS9 := row_same hS6 (hoth9 gs (by simp; omega) hne2) hb9.size
  have hb9w := hb6.trans hb9
  have hD9 : DAt w9 (.agg #[.slice (some ⟨gs, 0, none⟩) SN cs, .slice (some ⟨g9, 0, none⟩) (ON + 1) cap9, .int .i64 cap, .int .i64 fz, .bool false]) ⟨safe, ops ++ [⟨2, n, t, x⟩], cap, fz, false⟩ := by
    rw [hSN.out, hON.out]
    exact ⟨some ⟨gs, 0, none⟩, cs, some ⟨g9, 0, none⟩, cap9, by simp [dval], hS9, hown9.toRow, by rw [← hSN.out]; exact hcs2, hown9.le⟩
  have hap9 : Hid ((Builtin.append_ #[26, 26] 26 #[.slice (some ⟨go, 0, none⟩) ON co, .slice (some ⟨w5.heap.size, 0, none⟩) 1 1]).run Try.prog (w5.alloc (.cells #[.int .i64 2, .string n, .string t, .string x] 56)) = .ok (.slice (some ⟨g9, 0, none⟩) (ON + 1) cap9) w9) := hap9
  have z1 : w5.cell? ⟨E, 1, none⟩ = some (.slice (some ⟨go, 0, none⟩) ON co) := kE5.cell 1
  have z1' : w9.cell? ⟨E, 1, none⟩ = some (.slice (some ⟨go, 0, none⟩) ON co) := kE9.cell 1
  have zf := kE9.thaw
  have q0 : w5.cell? ⟨O, 0, none⟩ = some (.int .i64 2) := kO5.cell 0
  have q1 : w5.cell? ⟨O, 1, none⟩ = some (.string n) := kO5.cell 1
  have q2 : w5.cell? ⟨O, 2, none⟩ = some (.string t) := kO5.cell 2
  have q3 : w5.cell? ⟨O, 3, none⟩ = some (.string x) := kO5.cell 3
  have kE10 : Rg.Bk E [.slice (some ⟨gs, 0, none⟩) SN cs, .slice (some ⟨g9, 0, none⟩) (ON + 1) cap9, .int .i64 cap, .int .i64 fz, .bool false] 28 (w9.setCell ⟨E, 1, none⟩ (.slice (some ⟨g9, 0, none⟩) (ON + 1) cap9)) := kE9.set 1 (.slice (some ⟨g9, 0, none⟩) (ON + 1) cap9)
  have o10 := Rg.Only.setCell w9 E 1 (.slice (some ⟨g9, 0, none⟩) (ON + 1) cap9)
  have kR10 := Rg.hid (kR9.same (o10.block R (Ne.symm hER)))
  have hD10 := Rg.hid (hD9.only kE9 plainD o10)
  have hb10 := Rg.hid (hb9w.trans (o10.bel hEw))
  replace kE10 := Rg.hid kE10
  clear hj hy0 hy1 hy2 kE5 kR5 hO5 kO5 hS5 hb5 kE6 kR6 hO6 hS6 hb6 hown9 hb9 hoth9 hg9 kE9 kR9 hS9 hb9w hD9 o10 hSN hON hRl5 hEl5 hgl5 hsl5
  go_upto_region 8 with (at_builtin; refine Rg.wpList_append_run rfl (.tmp 38) (.tmp 40) 26 rfl _ _ rfl rfl _ _ hap9.out ?_)
  replace kE10 := kE10.out
  replace kR10 := kR10.out
  replace hD10 := hD10.out
  replace hb10 := hb10.out
  clear z1 z1' zf q0 q1 q2 q3 hap9
  generalize World.setCell _ _ _ = w10 at *
  obtain ⟨kE, oE⟩ := Rg.ret5 kR10 rfl (.slice (some ⟨gs, 0, none⟩) SN cs) (.slice (some ⟨g9, 0, none⟩) (ON + 1) cap9) (.int .i64 cap) (.int .i64 fz) (.bool false)
  have hDE := hD10.only kR10 plainZ oE
  have post := Rg.hid (⟨_, rfl, hDE, hb10.trans (oE.bel hRw)⟩ : DPost w (_, 0) (.returned _) _)
  replace kE := Rg.hid kE
  have d0' : w10.cell? ⟨E, 0, none⟩ = some (.slice (some ⟨gs, 0, none⟩) SN cs) := kE10.cell 0
  have d1' : w10.cell? ⟨E, 1, none⟩ = some (.slice (some ⟨g9, 0, none⟩) (ON + 1) cap9) := kE10.cell 1
  have d2' : w10.cell? ⟨E, 2, none⟩ = some (.int .i64 cap) := kE10.cell 2
  have d3' : w10.cell? ⟨E, 3, none⟩ = some (.int .i64 fz) := kE10.cell 3
  have d4' : w10.cell? ⟨E, 4, none⟩ = some (.bool false) := kE10.cell 4
  have r0 : w10.cell? ⟨R, 0, none⟩ = some (.slice none 0 0) := kR10.cell 0
  have r1 : w10.cell? ⟨R, 1, none⟩ = some (.slice none 0 0) := kR10.cell 1
  have r2 : w10.cell? ⟨R, 2, none⟩ = some (.int .i64 0) := kR10.cell 2
  have r3 : w10.cell? ⟨R, 3, none⟩ = some (.int .i64 0) := kR10.cell 3
  have r4 : w10.cell? ⟨R, 4, none⟩ = some (.bool false) := kR10.cell 4
  have rf := kR10.thaw
  clear oE kR10 hDE hD10 kE10
  go_wp2
  replace kE := kE.out
  replace post := post.out
  generalize World.setCell _ _ _ = WE at *
  exact bodyPost_ret (v := .tuple #[.agg #[.slice (some ⟨gs, 0, none⟩) SN cs, .slice (some ⟨g9, 0, none⟩) (ON + 1) cap9, .int .i64 cap, .int .i64 fz, .bool false], .int .i64 0]) (by simp [results, Try.results54, go_sem, kE.cell]) rfl post

set_option maxHeartbeats 4000000 in
set_option maxRecDepth 100000 in
theorem rdo_3 (v : Value) (d : Dsk.Dk) (n t x : ByteArray) (w : World) (hd : Dsk.Ok d) (hdn : d.down = false) (hw : Dsk.used d.safe + Dsk.wt d.ops + x.size + 16 ≤ 10000000000) (h : DAt w v d) :
    Calls Try.prog 54 #[v, .agg #[.int .i64 3, .string n, .string t, .string x]] w fun e w' => DPost w (Dsk.dod d ⟨3, n, t, x⟩) e w' := by
  have HO : Hid (∀ W, Below w.heap.size w W → Calls Try.prog 52 #[v] W fun e w' => OwnDP2 W d e w') := fun W hW => rown2_any v d W hd (h.below hW)
  obtain ⟨j0, hj, hy0, hy1, hy2⟩ := infoOp'
  have hdo : Hid (Dsk.dod d ⟨3, n, t, x⟩ = Dsk.operate d ⟨3, n, t, x⟩) := by show _ = _; unfold Dsk.dod; simp
  have hfu := hd.fuse
  have hfu' := hd.fuse'
  have hops := hd.ops
  have HB := Rg.hid rburn_any
  have hdO := Rg.hid hd
  have hnt := Rg.hid (hd.note ⟨3, n, t, x⟩ hw)
  have hfn := Rg.hid (Dsk.files_note hdn ⟨3, n, t, x⟩)
  have hwO := Rg.hid hw
  obtain ⟨sa, sc, oa, oc, rfl, hS, hO, hsc, hoc⟩ := h
  generalize Dsk.dod d ⟨3, n, t, x⟩ = r at *
  obtain ⟨safe, ops, cap, fuse, down⟩ := d
  unfold dval at *
  dsimp only at *
  subst hdn
  obtain ⟨d0, hd0⟩ : ∃ d0 : Dsk.Dk, d0 = ⟨safe, ops, cap, fuse, false⟩ := ⟨_, rfl⟩
  rw [← hd0] at HO hnt hfn hdO hdo
  replace hd0 := Rg.hid hd0
  have hHO : Hid (∀ W e w', OwnDP2 W d0 e w' → ∃ gs cs go co rest, e = .returned (.agg #[.slice (some ⟨gs, 0, none⟩) safe.length cs, .slice (some ⟨go, 0, none⟩) ops.length co, .int .i64 cap, .int .i64 fuse, .bool false]) ∧ fileE.Row w' (some ⟨gs, 0, none⟩) safe ∧ safe.length ≤ cs ∧ opE.Own W.heap.size w' go co ops rest ∧ gs ≠ go ∧ Below W.heap.size W w') := fun W e w' h => by rw [hd0.out] at h; exact h
  obtain ⟨SN, hSN⟩ : ∃ SN, SN = safe.length := ⟨_, rfl⟩
  obtain ⟨ON, hON⟩ : ∃ ON, ON = ops.length := ⟨_, rfl⟩
  rw [← hSN, ← hON] at hHO HO
  rw [← hON] at hops
  rw [← hSN, ← hON]
  replace hSN := Rg.hid hSN
  replace hON := Rg.hid hON
  clear hS hO hd hsc hoc
  have kB1 : Rg.Bk w.heap.size [.slice sa SN sc, .slice oa ON oc, .int .i64 cap, .int .i64 fuse, .bool false] 28 (((w.alloc (.cells #[.slice sa SN sc, .slice oa ON oc, .int .i64 cap, .int .i64 fuse, .bool false] 28)).alloc (.cells #[.int .i64 3, .string n, .string t, .string x] 56)).alloc (.cells #[.slice none 0 0, .slice none 0 0, .int .i64 0, .int .i64 0, .bool false] 28)) := ((Rg.Bk.new rfl).old _).old _
  have kO1 : Rg.Bk (w.heap.size + 1) [.int .i64 3, .string n, .string t, .string x] 56 (((w.alloc (.cells #[.slice sa SN sc, .slice oa ON oc, .int .i64 cap, .int .i64 fuse, .bool false] 28)).alloc (.cells #[.int .i64 3, .string n, .string t, .string x] 56)).alloc (.cells #[.slice none 0 0, .slice none 0 0, .int .i64 0, .int .i64 0, .bool false] 28)) := (Rg.Bk.new (by simp)).old _
  have kR1 : Rg.Bk (w.heap.size + 1 + 1) [.slice none 0 0, .slice none 0 0, .int .i64 0, .int .i64 0, .bool false] 28 (((w.alloc (.cells #[.slice sa SN sc, .slice oa ON oc, .int .i64 cap, .int .i64 fuse, .bool false] 28)).alloc (.cells #[.int .i64 3, .string n, .string t, .string x] 56)).alloc (.cells #[.slice none 0 0, .slice none 0 0, .int .i64 0, .int .i64 0, .bool false] 28)) := Rg.Bk.new (by simp)
  have hb1 := Rg.al3 w (.cells #[.slice sa SN sc, .slice oa ON oc, .int .i64 cap, .int .i64 fuse, .bool false] 28) (.cells #[.int .i64 3, .string n, .string t, .string x] 56) (.cells #[.slice none 0 0, .slice none 0 0, .int .i64 0, .int .i64 0, .bool false] 28)
  go_enter Try.func54, Try.ntmps54
  go_upto_region 1 with fail
  generalize World.alloc _ _ = w1 at *
  obtain ⟨B, hB⟩ : ∃ B, B = w.heap.size := ⟨_, rfl⟩
  obtain ⟨O, hOd⟩ : ∃ O, O = w.heap.size + 1 := ⟨_, rfl⟩
  obtain ⟨R, hR⟩ : ∃ R, R = w.heap.size + 1 + 1 := ⟨_, rfl⟩
  rw [← hR] at kR1 ⊢
  rw [← hOd] at kO1 ⊢
  rw [← hB] at kB1 ⊢
  have hBR : B ≠ R := by omega
  have hBO : B ≠ O := by omega
  have hOR : O ≠ R := by omega
  have hBw : w.heap.size ≤ B := by omega
  have hRw : w.heap.size ≤ R := by omega
  have hBl : B < w1.heap.size := kB1.lt
  have hOl : O < w1.heap.size := kO1.lt
  have hRl : R < w1.heap.size := kR1.lt
  clear hB hR hOd
  have c0 : w1.cell? ⟨B, 0, none⟩ = some (.slice sa SN sc) := kB1.cell 0
  have c1 : w1.cell? ⟨B, 1, none⟩ = some (.slice oa ON oc) := kB1.cell 1
  have c2 : w1.cell? ⟨B, 2, none⟩ = some (.int .i64 cap) := kB1.cell 2
  have c3 : w1.cell? ⟨B, 3, none⟩ = some (.int .i64 fuse) := kB1.cell 3
  have c4 : w1.cell? ⟨B, 4, none⟩ = some (.bool false) := kB1.cell 4
  have kB1' := Rg.hid kB1
  have kO1' := Rg.hid kO1
  have kR1' := Rg.hid kR1
  clear kB1 kR1 kO1
  go_upto_region 2 with (go_at_call 52; refine (HO.out _ hb1).mono ?_; rintro e w2 hq; obtain ⟨gs, cs, go, co, rest, rfl, hS2, hcs2, hO2, hne2, b2⟩ := hHO.out _ _ _ hq; clear hq; have kB2 := kB1'.out.below b2 kB1'.out.lt; have y0 := kB2.cell 0; have y1 := kB2.cell 1; have y2 := kB2.cell 2; have y3 := kB2.cell 3; have y4 := kB2.cell 4; simp only [List.getElem?_cons_zero, List.getElem?_cons_succ] at y0 y1 y2 y3 y4; have yf := kB2.thaw)
  have kR2 := kR1'.out.below b2 kR1'.out.lt
  have kO2 := kO1'.out.below b2 kO1'.out.lt
  have hb2 := Rg.chain hb1 b2
  have hgo1 := hO2.new
  have hgB : go ≠ B := by omega
  have hgR : go ≠ R := by omega
  have hgO : go ≠ O := by omega
  obtain ⟨kB3, oB⟩ := Rg.ret5 kB2 rfl (.slice (some ⟨gs, 0, none⟩) SN cs) (.slice (some ⟨go, 0, none⟩) ON co) (.int .i64 cap) (.int .i64 fuse) (.bool false)
  have kR3 := kR2.same (oB.block R (Ne.symm hBR))
  have kO3 := kO2.same (oB.block O (Ne.symm hBO))
  have hS3 := row_only hS2 kB2 plainD oB
  have hO3 := rebase (hO2.same (oB.block go hgB)) hb1.size
  have hb3 := hb2.trans (oB.bel hBw)
  clear y0 y1 y2 y3 y4 yf kB2 kR2 kO2 oB hS2 hO2 b2 hb2 HO c0 c1 c2 c3 c4 kB1' kR1' kO1' hb1 hHO hgo1
  generalize World.setCell _ _ _ = w3 at *
  have q0 : w3.cell? ⟨O, 0, none⟩ = some (.int .i64 3) := kO3.cell 0
  have q1 : w3.cell? ⟨O, 1, none⟩ = some (.string n) := kO3.cell 1
  have q2 : w3.cell? ⟨O, 2, none⟩ = some (.string t) := kO3.cell 2
  have q3 : w3.cell? ⟨O, 3, none⟩ = some (.string x) := kO3.cell 3
  have z0 : w3.cell? ⟨B, 0, none⟩ = some (.slice (some ⟨gs, 0, none⟩) SN cs) := kB3.cell 0
  have z1 : w3.cell? ⟨B, 1, none⟩ = some (.slice (some ⟨go, 0, none⟩) ON co) := kB3.cell 1
  have z2 : w3.cell? ⟨B, 2, none⟩ = some (.int .i64 cap) := kB3.cell 2
  have z3 : w3.cell? ⟨B, 3, none⟩ = some (.int .i64 fuse) := kB3.cell 3
  have z4 : w3.cell? ⟨B, 4, none⟩ = some (.bool false) := kB3.cell 4
  have hch := hdo.out
  replace kB3 := Rg.hid kB3
  replace kO3 := Rg.hid kO3
  replace kR3 := Rg.hid kR3
  replace hS3 := Rg.hid hS3
  replace hO3 := Rg.hid hO3
  replace hb3 := Rg.hid hb3
  replace hch := Rg.hid hch
  clear hdo hnt hfn
  refine wp_region_held_drew (S := (fun w' => w'.cell? ⟨B, 0, none⟩ = some (.slice (some ⟨gs, 0, none⟩) SN cs) ∧ w'.cell? ⟨B, 1, none⟩ = some (.slice (some ⟨go, 0, none⟩) ON co) ∧ w'.cell? ⟨B, 2, none⟩ = some (.int .i64 cap) ∧ w'.cell? ⟨B, 3, none⟩ = some (.int .i64 fuse) ∧ w'.cell? ⟨B, 4, none⟩ = some (.bool false) ∧ w'.cell? ⟨O, 0, none⟩ = some (.int .i64 3) ∧ w'.cell? ⟨O, 1, none⟩ = some (.string n) ∧ w'.cell? ⟨O, 2, none⟩ = some (.string t) ∧ w'.cell? ⟨O, 3, none⟩ = some (.string x))) (by kernel_rfl) ?_ (fun hH0 => ?_)
  · go_keep
  refine wpAnyH_take (i := 0) (oi := { dst := some 10, op := Op.fieldAddr 56 (Operand.tmp 3) 0, type := 0, pos := "ref.go:119", after := #[], guard := none }) (v := ?_) rfl (by kernel_rfl) (by kernel_rfl) (by kernel_rfl) (fun _ _ _ h => h) (Or.inl ⟨by rfl, ?_⟩) (by assumption) ?_
  rotate_left
  · (intro w hSw; (try dsimp only at hSw); go_simp); (try with_reducible rfl)
  simp only [Act.put, List.setIfInBounds_toArray, List.set_cons_zero, List.set_cons_succ]
  refine wpAnyH_take (i := 1) (oi := { dst := some 11, op := Op.load 3 (Operand.tmp 10), type := 3, pos := "ref.go:119", after := #[{ on := 0, ground := Ground.data }], guard := none }) (v := ?_) rfl (by kernel_rfl) (by kernel_rfl) (by kernel_rfl) (fun _ _ _ h => h) (Or.inl ⟨by rfl, ?_⟩) (by assumption) ?_
  rotate_left
  · (intro w hSw; (try dsimp only at hSw); go_simp); (try with_reducible rfl)
  simp only [Act.put, List.setIfInBounds_toArray, List.set_cons_zero, List.set_cons_succ]
  refine wpAnyH_take (i := 2) (oi := { dst := some 12, op := Op.binOp BinOp.eql 3 (Operand.tmp 11) (Operand.const (Value.int IntKind.i64 1)) 3, type := 4, pos := "ref.go:119", after := #[{ on := 1, ground := Ground.data }], guard := none }) (v := ?_) rfl (by kernel_rfl) (by kernel_rfl) (by kernel_rfl) (fun _ _ _ h => h) (Or.inl ⟨by rfl, ?_⟩) (by assumption) ?_
  rotate_left
  · (intro w hSw; (try dsimp only at hSw); go_simp); (try with_reducible rfl)
  simp only [Act.put, List.setIfInBounds_toArray, List.set_cons_zero, List.set_cons_succ]
  refine wpAnyH_take (i := 3) (oi := { dst := some 13, op := Op.move (Operand.tmp 12), type := 4, pos := "ref.go:119", after := #[{ on := 2, ground := Ground.data }], guard := none }) (v := ?_) rfl (by kernel_rfl) (by kernel_rfl) (by kernel_rfl) (fun _ _ _ h => h) (Or.inl ⟨by rfl, ?_⟩) (by assumption) ?_
  rotate_left
  · (intro w hSw; (try dsimp only at hSw); go_simp); (try with_reducible rfl)
  simp only [Act.put, List.setIfInBounds_toArray, List.set_cons_zero, List.set_cons_succ]
  refine wpAnyH_take (i := 4) (oi := { dst := some 14, op := Op.fieldAddr 56 (Operand.tmp 3) 0, type := 0, pos := "ref.go:119", after := #[{ on := 3, ground := Ground.guard }], guard := some (3, false) }) (v := ?_) rfl (by kernel_rfl) (by kernel_rfl) (by kernel_rfl) (fun _ _ _ h => h) (Or.inl ⟨by rfl, ?_⟩) (by assumption) ?_
  rotate_left
  · (intro w hSw; (try dsimp only at hSw); go_simp); (try with_reducible rfl)
  simp only [Act.put, List.setIfInBounds_toArray, List.set_cons_zero, List.set_cons_succ]
  refine wpAnyH_take (i := 5) (oi := { dst := some 15, op := Op.load 3 (Operand.tmp 14), type := 3, pos := "ref.go:119", after := #[{ on := 4, ground := Ground.data }, { on := 3, ground := Ground.guard }], guard := some (3, false) }) (v := ?_) rfl (by kernel_rfl) (by kernel_rfl) (by kernel_rfl) (fun _ _ _ h => h) (Or.inl ⟨by rfl, ?_⟩) (by assumption) ?_
  rotate_left
  · (intro w hSw; (try dsimp only at hSw); go_simp); (try with_reducible rfl)
  simp only [Act.put, List.setIfInBounds_toArray, List.set_cons_zero, List.set_cons_succ]
  refine wpAnyH_take (i := 6) (oi := { dst := some 16, op := Op.binOp BinOp.eql 3 (Operand.tmp 15) (Operand.const (Value.int IntKind.i64 2)) 3, type := 4, pos := "ref.go:119", after := #[{ on := 5, ground := Ground.data }, { on := 3, ground := Ground.guard }], guard := some (3, false) }) (v := ?_) rfl (by kernel_rfl) (by kernel_rfl) (by kernel_rfl) (fun _ _ _ h => h) (Or.inl ⟨by rfl, ?_⟩) (by assumption) ?_
  rotate_left
  · (intro w hSw; (try dsimp only at hSw); go_simp); (try with_reducible rfl)
  simp only [Act.put, List.setIfInBounds_toArray, List.set_cons_zero, List.set_cons_succ]
  refine wpAnyH_take (i := 7) (oi := { dst := some 17, op := Op.pick (Operand.tmp 13) (Operand.const (Value.bool true)) (Operand.tmp 16), type := 4, pos := "ref.go:119", after := #[{ on := 3, ground := Ground.data }, { on := 6, ground := Ground.data }], guard := none }) (v := ?_) rfl (by kernel_rfl) (by kernel_rfl) (by kernel_rfl) (fun _ _ _ h => h) (Or.inl ⟨by rfl, ?_⟩) (by assumption) ?_
  rotate_left
  · (intro w hSw; (try dsimp only at hSw); go_simp); (try with_reducible rfl)
  simp only [Act.put, List.setIfInBounds_toArray, List.set_cons_zero, List.set_cons_succ]
  refine wpAnyH_take (i := 8) (oi := { dst := some 18, op := Op.move (Operand.tmp 17), type := 4, pos := "ref.go:119", after := #[{ on := 7, ground := Ground.data }, { on := 3, ground := Ground.chain }], guard := none }) (v := ?_) rfl (by kernel_rfl) (by kernel_rfl) (by kernel_rfl) (fun _ _ _ h => h) (Or.inl ⟨by rfl, ?_⟩) (by assumption) ?_
  rotate_left
  · (intro w hSw; (try dsimp only at hSw); go_simp); (try with_reducible rfl)
  simp only [Act.put, List.setIfInBounds_toArray, List.set_cons_zero, List.set_cons_succ]
  refine wpAnyH_take (i := 9) (oi := { dst := some 19, op := Op.load 28 (Operand.tmp 2), type := 28, pos := "ref.go:119", after := #[{ on := 8, ground := Ground.guard }], guard := some (8, true) }) (v := undef) rfl (by kernel_rfl) (by kernel_rfl) (by kernel_rfl) (fun _ _ _ h => h) (Or.inr ⟨by rfl, rfl⟩) (by assumption) ?_
  simp only [Act.put, List.setIfInBounds_toArray, List.set_cons_zero, List.set_cons_succ]
  refine wpAnyH_take (i := 11) (oi := { dst := some 21, op := Op.load 56 (Operand.tmp 3), type := 56, pos := "ref.go:119", after := #[{ on := 8, ground := Ground.guard }], guard := some (8, true) }) (v := undef) rfl (by kernel_rfl) (by kernel_rfl) (by kernel_rfl) (fun _ _ _ h => h) (Or.inr ⟨by rfl, rfl⟩) (by assumption) ?_
  simp only [Act.put, List.setIfInBounds_toArray, List.set_cons_zero, List.set_cons_succ]
  refine wpAnyH_take (i := 14) (oi := { dst := some 24, op := Op.fieldAddr 28 (Operand.tmp 2) 2, type := 0, pos := "ref.go:119", after := #[{ on := 8, ground := Ground.guard }], guard := some (8, true) }) (v := undef) rfl (by kernel_rfl) (by kernel_rfl) (by kernel_rfl) (fun _ _ _ h => h) (Or.inr ⟨by rfl, rfl⟩) (by assumption) ?_
  simp only [Act.put, List.setIfInBounds_toArray, List.set_cons_zero, List.set_cons_succ]
  refine wpAnyH_take (i := 15) (oi := { dst := some 25, op := Op.load 3 (Operand.tmp 24), type := 3, pos := "ref.go:119", after := #[{ on := 14, ground := Ground.data }, { on := 8, ground := Ground.guard }], guard := some (8, true) }) (v := undef) rfl (by kernel_rfl) (by kernel_rfl) (by kernel_rfl) (fun _ _ _ h => h) (Or.inr ⟨by rfl, rfl⟩) (by assumption) ?_
  simp only [Act.put, List.setIfInBounds_toArray, List.set_cons_zero, List.set_cons_succ]
  refine wpAnyH_ready (rs := [10]) (by kernel_rfl) (by simp) ?_
  refine AllReadyH.cons (o := { dst := some 20, op := Op.call { callee := Callee.value (Operand.func 20), args := #[Operand.tmp 19], argTypes := #[28] }, type := 25, pos := "ref.go:119", after := #[{ on := 9, ground := Ground.data }, { on := 8, ground := Ground.chain }, { on := 8, ground := Ground.guard }], guard := some (8, true) }) rfl (fun K hK => ?_) AllReadyH.nil
  go_simp
  refine hK.out _ _ ?_ (fun hH10 => ?_)
  · go_keep
  clear hK K hH0
  refine wpAnyH_ready (rs := [12]) (by kernel_rfl) (by simp) ?_
  refine AllReadyH.cons (o := { dst := some 22, op := Op.call { callee := Callee.value (Operand.func 46), args := #[Operand.tmp 20, Operand.tmp 21], argTypes := #[25, 56] }, type := 25, pos := "ref.go:119", after := #[{ on := 10, ground := Ground.data }, { on := 11, ground := Ground.data }, { on := 10, ground := Ground.chain }, { on := 8, ground := Ground.guard }], guard := some (8, true) }) rfl (fun K hK => ?_) AllReadyH.nil
  go_simp
  refine hK.out _ _ ?_ (fun hH12 => ?_)
  · go_keep
  clear hK K hH10
  refine wpAnyH_ready (rs := [13]) (by kernel_rfl) (by simp) ?_
  refine AllReadyH.cons (o := { dst := some 23, op := Op.call { callee := Callee.value (Operand.func 44), args := #[Operand.tmp 22], argTypes := #[25] }, type := 3, pos := "ref.go:119", after := #[{ on := 12, ground := Ground.data }, { on := 12, ground := Ground.chain }, { on := 8, ground := Ground.guard }], guard := some (8, true) }) rfl (fun K hK => ?_) AllReadyH.nil
  go_simp
  refine hK.out _ _ ?_ (fun hH13 => ?_)
  · go_keep
  clear hK K hH12
  refine wpAnyH_take (i := 16) (oi := { dst := some 26, op := Op.binOp BinOp.gtr 3 (Operand.tmp 23) (Operand.tmp 25) 3, type := 4, pos := "ref.go:119", after := #[{ on := 13, ground := Ground.data }, { on := 15, ground := Ground.data }, { on := 8, ground := Ground.guard }], guard := some (8, true) }) (v := undef) rfl (by kernel_rfl) (by kernel_rfl) (by kernel_rfl) (fun _ _ _ h => h) (Or.inr ⟨by rfl, rfl⟩) (by assumption) ?_
  simp only [Act.put, List.setIfInBounds_toArray, List.set_cons_zero, List.set_cons_succ]
  refine wpAnyH_take (i := 17) (oi := { dst := some 27, op := Op.pick (Operand.tmp 18) (Operand.tmp 26) (Operand.const (Value.bool false)), type := 4, pos := "ref.go:119", after := #[{ on := 8, ground := Ground.data }, { on := 16, ground := Ground.data }], guard := none }) (v := ?_) rfl (by kernel_rfl) (by kernel_rfl) (by kernel_rfl) (fun _ _ _ h => h) (Or.inl ⟨by rfl, ?_⟩) (by assumption) ?_
  rotate_left
  · (intro w hSw; (try dsimp only at hSw); go_simp); (try with_reducible rfl)
  simp only [Act.put, List.setIfInBounds_toArray, List.set_cons_zero, List.set_cons_succ]
  refine wpAnyH_done (by kernel_rfl) ?_ _
  clear hH13
  have kB6 := kB3.out.drew
  have kO6 := kO3.out.drew
  have kR6 := kR3.out.drew
  have hS6 := hS3.out.drew
  have hO6 := hO3.out.drew
  have hb6 := hb3.out.drew
  replace hch := hch.out
  clear kB3 kO3 kR3 hS3 hO3 hb3 q0 q1 q2 q3 z0 z1 z2 z3 z4 hj hy0 hy1 hy2
  generalize w3.drew = w6 at *
  have z0 : w6.cell? ⟨B, 0, none⟩ = some (.slice (some ⟨gs, 0, none⟩) SN cs) := kB6.cell 0
  have z1 : w6.cell? ⟨B, 1, none⟩ = some (.slice (some ⟨go, 0, none⟩) ON co) := kB6.cell 1
  have z2 : w6.cell? ⟨B, 2, none⟩ = some (.int .i64 cap) := kB6.cell 2
  have z3 : w6.cell? ⟨B, 3, none⟩ = some (.int .i64 fuse) := kB6.cell 3
  have z4 : w6.cell? ⟨B, 4, none⟩ = some (.bool false) := kB6.cell 4
  go_upto_region 4 with fail
  rw [hd0.out] at hch
  by_cases hz : fuse = 0
  · subst hz
    have hop : Dsk.operate ⟨safe, ops, cap, 0, false⟩ ⟨3, n, t, x⟩ = (⟨safe, ops, cap, 0, true⟩, 9) := rfl
    rw [hop] at hch
    subst hch
    have HB' : Hid (∀ W, Calls Try.prog 56 #[.agg #[.slice (some ⟨gs, 0, none⟩) SN cs, .slice (some ⟨go, 0, none⟩) ON co, .int .i64 cap, .int .i64 0, .bool false]] W fun e w' => e = .returned (.tuple #[.agg #[.slice (some ⟨gs, 0, none⟩) SN cs, .slice (some ⟨go, 0, none⟩) ON co, .int .i64 cap, .int .i64 0, .bool true], .bool false]) ∧ Below W.heap.size W w') := fun W => (HB.out (some ⟨gs, 0, none⟩) SN cs (some ⟨go, 0, none⟩) ON co cap 0 false W (by omega) (by omega)).mono fun e w' ⟨h1, h2⟩ => ⟨by rw [h1]; simp, h2⟩
    have hD3' : Hid (DAt w6 (.agg #[.slice (some ⟨gs, 0, none⟩) SN cs, .slice (some ⟨go, 0, none⟩) ON co, .int .i64 cap, .int .i64 0, .bool true]) ⟨safe, ops, cap, 0, true⟩) := by
      rw [hSN.out, hON.out]
      exact ⟨some ⟨gs, 0, none⟩, cs, some ⟨go, 0, none⟩, co, rfl, hS6, hO6.toRow, by rw [← hSN.out]; exact hcs2, hO6.le⟩
    have kR3' := Rg.hid kR6
    have hb3' := Rg.hid hb6
    clear kB6 kO6 kR6 hS6 hO6 hb6 HB hdO hd0 hSN hON hwO hop
    go_upto_region 6 with (go_at_call 56; refine (HB'.out _).mono ?_; rintro e w4 ⟨rfl, b4⟩)
    have kE5 : Rg.Bk w4.heap.size [.slice (some ⟨gs, 0, none⟩) SN cs, .slice (some ⟨go, 0, none⟩) ON co, .int .i64 cap, .int .i64 0, .bool true] 28 (w4.alloc (.cells #[.slice (some ⟨gs, 0, none⟩) SN cs, .slice (some ⟨go, 0, none⟩) ON co, .int .i64 cap, .int .i64 0, .bool true] 28)) := Rg.Bk.new rfl
    have kR5 := (kR3'.out.below b4 kR3'.out.lt).old (.cells #[.slice (some ⟨gs, 0, none⟩) SN cs, .slice (some ⟨go, 0, none⟩) ON co, .int .i64 cap, .int .i64 0, .bool true] 28)
    have b5 := Rg.chain b4 (Rg.al1 w4 (.cells #[.slice (some ⟨gs, 0, none⟩) SN cs, .slice (some ⟨go, 0, none⟩) ON co, .int .i64 cap, .int .i64 0, .bool true] 28))
    have hD5 := hD3'.out.below b5
    have hb5 := Rg.chain hb3'.out b5
    have hEw : w.heap.size ≤ w4.heap.size := Nat.le_trans hb3'.out.size b4.size
    have hER : w4.heap.size ≠ R := fun h => by have := (kR3'.out.below b4 kR3'.out.lt).lt; omega
    clear b4 b5 kR3' hD3' hb3' HB' z0 z1 z2 z3 z4
    generalize World.alloc _ _ = w5 at *
    generalize w4.heap.size = E at *
    obtain ⟨kE, oE⟩ := Rg.ret5 kR5 rfl (.slice (some ⟨gs, 0, none⟩) SN cs) (.slice (some ⟨go, 0, none⟩) ON co) (.int .i64 cap) (.int .i64 0) (.bool true)
    have hDE := hD5.only kR5 plainZ oE
    have post := Rg.hid (⟨_, rfl, hDE, hb5.trans (oE.bel hRw)⟩ : DPost w (_, 9) (.returned _) _)
    replace kE := Rg.hid kE
    have d0' : w5.cell? ⟨E, 0, none⟩ = some (.slice (some ⟨gs, 0, none⟩) SN cs) := kE5.cell 0
    have d1' : w5.cell? ⟨E, 1, none⟩ = some (.slice (some ⟨go, 0, none⟩) ON co) := kE5.cell 1
    have d2' : w5.cell? ⟨E, 2, none⟩ = some (.int .i64 cap) := kE5.cell 2
    have d3' : w5.cell? ⟨E, 3, none⟩ = some (.int .i64 0) := kE5.cell 3
    have d4' : w5.cell? ⟨E, 4, none⟩ = some (.bool true) := kE5.cell 4
    have r0 : w5.cell? ⟨R, 0, none⟩ = some (.slice none 0 0) := kR5.cell 0
    have r1 : w5.cell? ⟨R, 1, none⟩ = some (.slice none 0 0) := kR5.cell 1
    have r2 : w5.cell? ⟨R, 2, none⟩ = some (.int .i64 0) := kR5.cell 2
    have r3 : w5.cell? ⟨R, 3, none⟩ = some (.int .i64 0) := kR5.cell 3
    have r4 : w5.cell? ⟨R, 4, none⟩ = some (.bool false) := kR5.cell 4
    have rf := kR5.thaw
    clear oE kR5 hDE hD5 kE5
    go_wp2
    replace kE := kE.out
    replace post := post.out
    generalize World.setCell _ _ _ = WE at *
    exact bodyPost_ret (v := .tuple #[.agg #[.slice (some ⟨gs, 0, none⟩) SN cs, .slice (some ⟨go, 0, none⟩) ON co, .int .i64 cap, .int .i64 0, .bool true], .int .i64 9]) (by simp [results, Try.results54, go_sem, kE.cell]) rfl post
  obtain ⟨fz, hfz⟩ : ∃ fz, fz = if fuse > 0 then fuse - 1 else fuse := ⟨_, rfl⟩
  have hop : Dsk.operate ⟨safe, ops, cap, fuse, false⟩ ⟨3, n, t, x⟩ = (⟨safe, ops ++ [⟨3, n, t, x⟩], cap, fz, false⟩, 0) := by
    unfold Dsk.operate
    rw [if_neg hz, Dsk.burn_eq, hfz]
    rfl
  rw [hop] at hch
  subst hch
  have HB' : Hid (∀ W, Calls Try.prog 56 #[.agg #[.slice (some ⟨gs, 0, none⟩) SN cs, .slice (some ⟨go, 0, none⟩) ON co, .int .i64 cap, .int .i64 fuse, .bool false]] W fun e w' => e = .returned (.tuple #[.agg #[.slice (some ⟨gs, 0, none⟩) SN cs, .slice (some ⟨go, 0, none⟩) ON co, .int .i64 cap, .int .i64 fz, .bool false], .bool true]) ∧ Below W.heap.size W w') := fun W => (HB.out (some ⟨gs, 0, none⟩) SN cs (some ⟨go, 0, none⟩) ON co cap fuse false W hfu hfu').mono fun e w' ⟨h1, h2⟩ => ⟨by rw [h1, hfz]; simp [hz], h2⟩
  have kR3' := Rg.hid kR6
  have kO3' := Rg.hid kO6
  have hS3' := Rg.hid hS6
  have hO3' := Rg.hid hO6
  have hb3' := Rg.hid hb6
  clear kB6 kO6 kR6 hS6 hO6 hb6 HB hdO hd0 hwO hop hfz hfu hfu' hz
  go_upto_region 7 with (go_at_call 56; refine (HB'.out _).mono ?_; rintro e w4 ⟨rfl, b4⟩)
  have kE5 : Rg.Bk w4.heap.size [.slice (some ⟨gs, 0, none⟩) SN cs, .slice (some ⟨go, 0, none⟩) ON co, .int .i64 cap, .int .i64 fz, .bool false] 28 (w4.alloc (.cells #[.slice (some ⟨gs, 0, none⟩) SN cs, .slice (some ⟨go, 0, none⟩) ON co, .int .i64 cap, .int .i64 fz, .bool false] 28)) := Rg.Bk.new rfl
  have kR5 := (kR3'.out.below b4 kR3'.out.lt).old (.cells #[.slice (some ⟨gs, 0, none⟩) SN cs, .slice (some ⟨go, 0, none⟩) ON co, .int .i64 cap, .int .i64 fz, .bool false] 28)
  have b5 := Rg.chain b4 (Rg.al1 w4 (.cells #[.slice (some ⟨gs, 0, none⟩) SN cs, .slice (some ⟨go, 0, none⟩) ON co, .int .i64 cap, .int .i64 fz, .bool false] 28))
  have hS5 := hS3'.out.below b5
  have hO5 := hO3'.out.below b5
  have kO5 := kO3'.out.below b5 kO3'.out.lt
  have hgE : go ≠ w4.heap.size := fun h => by have := (hO3'.out.below b4).lt; omega
  have hb5 := Rg.chain hb3'.out b5
  have hEw : w.heap.size ≤ w4.heap.size := Nat.le_trans hb3'.out.size b4.size
  have hER : w4.heap.size ≠ R := fun h => by have := (kR3'.out.below b4 kR3'.out.lt).lt; omega
  clear b4 b5 hO3' kO3' kR3' hS3' hb3' HB' z0 z1 z2 z3 z4
  generalize World.alloc _ _ = w5 at *
  generalize w4.heap.size = E at *
  obtain ⟨j0, hj, hy0, hy1, hy2⟩ := infoOp'
  have hRl5 := kR5.lt
  have hEl5 := kE5.lt
  have hgl5 := hO5.lt
  have hsl5 : gs < w5.heap.size := hS5.some.1
  have kE6 := kE5.old (.cells #[.int .i64 3, .string n, .string t, .string x] 56)
  have kR6 := kR5.old (.cells #[.int .i64 3, .string n, .string t, .string x] 56)
  have hO6 := hO5.below (Rg.al1 w5 (.cells #[.int .i64 3, .string n, .string t, .string x] 56))
  have hS6 := hS5.below (Rg.al1 w5 (.cells #[.int .i64 3, .string n, .string t, .string x] 56))
  have hb6 := Rg.chain hb5 (Rg.al1 w5 (.cells #[.int .i64 3, .string n, .string t, .string x] 56))
  obtain ⟨g9, cap9, rest9, w9, hap9, hown9, _, hb9, hoth9, hg9⟩ := hO6.append (P := Try.prog) ⟨3, n, t, x⟩ 26 26 j0 _ 56 Try.underlying26 hj hy0 hy1 hy2 rfl ⟨w5.heap.size, 0, none⟩ 1 (Rg.At.add (fun i u hu => by rw [Nat.zero_add, (Rg.Bk.new (C := [.int .i64 3, .string n, .string t, .string x]) (ty := 56) rfl).cell i]; exact hu)) hb6.size (by have := hON.out; omega) (by have := hON.out; unfold maxLen; omega)
  rw [← hON.out] at hap9
  have hgE9 : g9 ≠ E := by simp at hg9; omega
  have hgR9 : g9 ≠ R := by simp at hg9; omega
  have kE9 : Rg.Bk E [.slice (some ⟨gs, 0, none⟩) SN cs, .slice (some ⟨go, 0, none⟩) ON co, .int .i64 cap, .int .i64 fz, .bool false] 28 w9 := kE6.same (hoth9 E (by simp; omega) (Ne.symm hgE))
  have kR9 := kR6.same (hoth9 R (by simp; omega) (Ne.symm hgR))
  have hS9 := row_same hS6 (hoth9 gs (by simp; omega) hne2) hb9.size
  have hb9w := hb6.trans hb9
  have hD9 : DAt w9 (.agg #[.slice (some ⟨gs, 0, none⟩) SN cs, .slice (some ⟨g9, 0, none⟩) (ON + 1) cap9, .int .i64 cap, .int .i64 fz, .bool false]) ⟨safe, ops ++ [⟨3, n, t, x⟩], cap, fz, false⟩ := by
    rw [hSN.out, hON.out]
    exact ⟨some ⟨gs, 0, none⟩, cs, some ⟨g9, 0, none⟩, cap9, by simp [dval], hS9, hown9.toRow, by rw [← hSN.out]; exact hcs2, hown9.le⟩
  have hap9 : Hid ((Builtin.append_ #[26, 26] 26 #[.slice (some ⟨go, 0, none⟩) ON co, .slice (some ⟨w5.heap.size, 0, none⟩) 1 1]).run Try.prog (w5.alloc (.cells #[.int .i64 3, .string n, .string t, .string x] 56)) = .ok (.slice (some ⟨g9, 0, none⟩) (ON + 1) cap9) w9) := hap9
  have z1 : w5.cell? ⟨E, 1, none⟩ = some (.slice (some ⟨go, 0, none⟩) ON co) := kE5.cell 1
  have z1' : w9.cell? ⟨E, 1, none⟩ = some (.slice (some ⟨go, 0, none⟩) ON co) := kE9.cell 1
  have zf := kE9.thaw
  have q0 : w5.cell? ⟨O, 0, none⟩ = some (.int .i64 3) := kO5.cell 0
  have q1 : w5.cell? ⟨O, 1, none⟩ = some (.string n) := kO5.cell 1
  have q2 : w5.cell? ⟨O, 2, none⟩ = some (.string t) := kO5.cell 2
  have q3 : w5.cell? ⟨O, 3, none⟩ = some (.string x) := kO5.cell 3
  have kE10 : Rg.Bk E [.slice (some ⟨gs, 0, none⟩) SN cs, .slice (some ⟨g9, 0, none⟩) (ON + 1) cap9, .int .i64 cap, .int .i64 fz, .bool false] 28 (w9.setCell ⟨E, 1, none⟩ (.slice (some ⟨g9, 0, none⟩) (ON + 1) cap9)) := kE9.set 1 (.slice (some ⟨g9, 0, none⟩) (ON + 1) cap9)
  have o10 := Rg.Only.setCell w9 E 1 (.slice (some ⟨g9, 0, none⟩) (ON + 1) cap9)
  have kR10 := Rg.hid (kR9.same (o10.block R (Ne.symm hER)))
  have hD10 := Rg.hid (hD9.only kE9 plainD o10)
  have hb10 := Rg.hid (hb9w.trans (o10.bel hEw))
  replace kE10 := Rg.hid kE10
  clear hj hy0 hy1 hy2 kE5 kR5 hO5 kO5 hS5 hb5 kE6 kR6 hO6 hS6 hb6 hown9 hb9 hoth9 hg9 kE9 kR9 hS9 hb9w hD9 o10 hSN hON hRl5 hEl5 hgl5 hsl5
  go_upto_region 8 with (at_builtin; refine Rg.wpList_append_run rfl (.tmp 38) (.tmp 40) 26 rfl _ _ rfl rfl _ _ hap9.out ?_)
  replace kE10 := kE10.out
  replace kR10 := kR10.out
  replace hD10 := hD10.out
  replace hb10 := hb10.out
  clear z1 z1' zf q0 q1 q2 q3 hap9
  generalize World.setCell _ _ _ = w10 at *
  obtain ⟨kE, oE⟩ := Rg.ret5 kR10 rfl (.slice (some ⟨gs, 0, none⟩) SN cs) (.slice (some ⟨g9, 0, none⟩) (ON + 1) cap9) (.int .i64 cap) (.int .i64 fz) (.bool false)
  have hDE := hD10.only kR10 plainZ oE
  have post := Rg.hid (⟨_, rfl, hDE, hb10.trans (oE.bel hRw)⟩ : DPost w (_, 0) (.returned _) _)
  replace kE := Rg.hid kE
  have d0' : w10.cell? ⟨E, 0, none⟩ = some (.slice (some ⟨gs, 0, none⟩) SN cs) := kE10.cell 0
  have d1' : w10.cell? ⟨E, 1, none⟩ = some (.slice (some ⟨g9, 0, none⟩) (ON + 1) cap9) := kE10.cell 1
  have d2' : w10.cell? ⟨E, 2, none⟩ = some (.int .i64 cap) := kE10.cell 2
  have d3' : w10.cell? ⟨E, 3, none⟩ = some (.int .i64 fz) := kE10.cell 3
  have d4' : w10.cell? ⟨E, 4, none⟩ = some (.bool false) := kE10.cell 4
  have r0 : w10.cell? ⟨R, 0, none⟩ = some (.slice none 0 0) := kR10.cell 0
  have r1 : w10.cell? ⟨R, 1, none⟩ = some (.slice none 0 0) := kR10.cell 1
  have r2 : w10.cell? ⟨R, 2, none⟩ = some (.int .i64 0) := kR10.cell 2
  have r3 : w10.cell? ⟨R, 3, none⟩ = some (.int .i64 0) := kR10.cell 3
  have r4 : w10.cell? ⟨R, 4, none⟩ = some (.bool false) := kR10.cell 4
  have rf := kR10.thaw
  clear oE kR10 hDE hD10 kE10
  go_wp2
  replace kE := kE.out
  replace post := post.out
  generalize World.setCell _ _ _ = WE at *
  exact bodyPost_ret (v := .tuple #[.agg #[.slice (some ⟨gs, 0, none⟩) SN cs, .slice (some ⟨g9, 0, none⟩) (ON + 1) cap9, .int .i64 cap, .int .i64 fz, .bool false], .int .i64 0]) (by simp [results, Try.results54, go_sem, kE.cell]) rfl post

set_option maxHeartbeats 4000000 in
set_option maxRecDepth 100000 in
theorem rdo_4 (v : Value) (d : Dsk.Dk) (n t x : ByteArray) (w : World) (hd : Dsk.Ok d) (hdn : d.down = false) (hw : Dsk.used d.safe + Dsk.wt d.ops + x.size + 16 ≤ 10000000000) (h : DAt w v d) :
    Calls Try.prog 54 #[v, .agg #[.int .i64 4, .string n, .string t, .string x]] w fun e w' => DPost w (Dsk.dod d ⟨4, n, t, x⟩) e w' := by
  have HO : Hid (∀ W, Below w.heap.size w W → Calls Try.prog 52 #[v] W fun e w' => OwnDP2 W d e w') := fun W hW => rown2_any v d W hd (h.below hW)
  obtain ⟨j0, hj, hy0, hy1, hy2⟩ := infoOp'
  have hdo : Hid (Dsk.dod d ⟨4, n, t, x⟩ = Dsk.operate d ⟨4, n, t, x⟩) := by show _ = _; unfold Dsk.dod; simp
  have hfu := hd.fuse
  have hfu' := hd.fuse'
  have hops := hd.ops
  have HB := Rg.hid rburn_any
  have hdO := Rg.hid hd
  have hnt := Rg.hid (hd.note ⟨4, n, t, x⟩ hw)
  have hfn := Rg.hid (Dsk.files_note hdn ⟨4, n, t, x⟩)
  have hwO := Rg.hid hw
  obtain ⟨sa, sc, oa, oc, rfl, hS, hO, hsc, hoc⟩ := h
  generalize Dsk.dod d ⟨4, n, t, x⟩ = r at *
  obtain ⟨safe, ops, cap, fuse, down⟩ := d
  unfold dval at *
  dsimp only at *
  subst hdn
  obtain ⟨d0, hd0⟩ : ∃ d0 : Dsk.Dk, d0 = ⟨safe, ops, cap, fuse, false⟩ := ⟨_, rfl⟩
  rw [← hd0] at HO hnt hfn hdO hdo
  replace hd0 := Rg.hid hd0
  have hHO : Hid (∀ W e w', OwnDP2 W d0 e w' → ∃ gs cs go co rest, e = .returned (.agg #[.slice (some ⟨gs, 0, none⟩) safe.length cs, .slice (some ⟨go, 0, none⟩) ops.length co, .int .i64 cap, .int .i64 fuse, .bool false]) ∧ fileE.Row w' (some ⟨gs, 0, none⟩) safe ∧ safe.length ≤ cs ∧ opE.Own W.heap.size w' go co ops rest ∧ gs ≠ go ∧ Below W.heap.size W w') := fun W e w' h => by rw [hd0.out] at h; exact h
  obtain ⟨SN, hSN⟩ : ∃ SN, SN = safe.length := ⟨_, rfl⟩
  obtain ⟨ON, hON⟩ : ∃ ON, ON = ops.length := ⟨_, rfl⟩
  rw [← hSN, ← hON] at hHO HO
  rw [← hON] at hops
  rw [← hSN, ← hON]
  replace hSN := Rg.hid hSN
  replace hON := Rg.hid hON
  clear hS hO hd hsc hoc
  have kB1 : Rg.Bk w.heap.size [.slice sa SN sc, .slice oa ON oc, .int .i64 cap, .int .i64 fuse, .bool false] 28 (((w.alloc (.cells #[.slice sa SN sc, .slice oa ON oc, .int .i64 cap, .int .i64 fuse, .bool false] 28)).alloc (.cells #[.int .i64 4, .string n, .string t, .string x] 56)).alloc (.cells #[.slice none 0 0, .slice none 0 0, .int .i64 0, .int .i64 0, .bool false] 28)) := ((Rg.Bk.new rfl).old _).old _
  have kO1 : Rg.Bk (w.heap.size + 1) [.int .i64 4, .string n, .string t, .string x] 56 (((w.alloc (.cells #[.slice sa SN sc, .slice oa ON oc, .int .i64 cap, .int .i64 fuse, .bool false] 28)).alloc (.cells #[.int .i64 4, .string n, .string t, .string x] 56)).alloc (.cells #[.slice none 0 0, .slice none 0 0, .int .i64 0, .int .i64 0, .bool false] 28)) := (Rg.Bk.new (by simp)).old _
  have kR1 : Rg.Bk (w.heap.size + 1 + 1) [.slice none 0 0, .slice none 0 0, .int .i64 0, .int .i64 0, .bool false] 28 (((w.alloc (.cells #[.slice sa SN sc, .slice oa ON oc, .int .i64 cap, .int .i64 fuse, .bool false] 28)).alloc (.cells #[.int .i64 4, .string n, .string t, .string x] 56)).alloc (.cells #[.slice none 0 0, .slice none 0 0, .int .i64 0, .int .i64 0, .bool false] 28)) := Rg.Bk.new (by simp)
  have hb1 := Rg.al3 w (.cells #[.slice sa SN sc, .slice oa ON oc, .int .i64 cap, .int .i64 fuse, .bool false] 28) (.cells #[.int .i64 4, .string n, .string t, .string x] 56) (.cells #[.slice none 0 0, .slice none 0 0, .int .i64 0, .int .i64 0, .bool false] 28)
  go_enter Try.func54, Try.ntmps54
  go_upto_region 1 with fail
  generalize World.alloc _ _ = w1 at *
  obtain ⟨B, hB⟩ : ∃ B, B = w.heap.size := ⟨_, rfl⟩
  obtain ⟨O, hOd⟩ : ∃ O, O = w.heap.size + 1 := ⟨_, rfl⟩
  obtain ⟨R, hR⟩ : ∃ R, R = w.heap.size + 1 + 1 := ⟨_, rfl⟩
  rw [← hR] at kR1 ⊢
  rw [← hOd] at kO1 ⊢
  rw [← hB] at kB1 ⊢
  have hBR : B ≠ R := by omega
  have hBO : B ≠ O := by omega
  have hOR : O ≠ R := by omega
  have hBw : w.heap.size ≤ B := by omega
  have hRw : w.heap.size ≤ R := by omega
  have hBl : B < w1.heap.size := kB1.lt
  have hOl : O < w1.heap.size := kO1.lt
  have hRl : R < w1.heap.size := kR1.lt
  clear hB hR hOd
  have c0 : w1.cell? ⟨B, 0, none⟩ = some (.slice sa SN sc) := kB1.cell 0
  have c1 : w1.cell? ⟨B, 1, none⟩ = some (.slice oa ON oc) := kB1.cell 1
  have c2 : w1.cell? ⟨B, 2, none⟩ = some (.int .i64 cap) := kB1.cell 2
  have c3 : w1.cell? ⟨B, 3, none⟩ = some (.int .i64 fuse) := kB1.cell 3
  have c4 : w1.cell? ⟨B, 4, none⟩ = some (.bool false) := kB1.cell 4
  have kB1' := Rg.hid kB1
  have kO1' := Rg.hid kO1
  have kR1' := Rg.hid kR1
  clear kB1 kR1 kO1
  go_upto_region 2 with (go_at_call 52; refine (HO.out _ hb1).mono ?_; rintro e w2 hq; obtain ⟨gs, cs, go, co, rest, rfl, hS2, hcs2, hO2, hne2, b2⟩ := hHO.out _ _ _ hq; clear hq; have kB2 := kB1'.out.below b2 kB1'.out.lt; have y0 := kB2.cell 0; have y1 := kB2.cell 1; have y2 := kB2.cell 2; have y3 := kB2.cell 3; have y4 := kB2.cell 4; simp only [List.getElem?_cons_zero, List.getElem?_cons_succ] at y0 y1 y2 y3 y4; have yf := kB2.thaw)
  have kR2 := kR1'.out.below b2 kR1'.out.lt
  have kO2 := kO1'.out.below b2 kO1'.out.lt
  have hb2 := Rg.chain hb1 b2
  have hgo1 := hO2.new
  have hgB : go ≠ B := by omega
  have hgR : go ≠ R := by omega
  have hgO : go ≠ O := by omega
  obtain ⟨kB3, oB⟩ := Rg.ret5 kB2 rfl (.slice (some ⟨gs, 0, none⟩) SN cs) (.slice (some ⟨go, 0, none⟩) ON co) (.int .i64 cap) (.int .i64 fuse) (.bool false)
  have kR3 := kR2.same (oB.block R (Ne.symm hBR))
  have kO3 := kO2.same (oB.block O (Ne.symm hBO))
  have hS3 := row_only hS2 kB2 plainD oB
  have hO3 := rebase (hO2.same (oB.block go hgB)) hb1.size
  have hb3 := hb2.trans (oB.bel hBw)
  clear y0 y1 y2 y3 y4 yf kB2 kR2 kO2 oB hS2 hO2 b2 hb2 HO c0 c1 c2 c3 c4 kB1' kR1' kO1' hb1 hHO hgo1
  generalize World.setCell _ _ _ = w3 at *
  have q0 : w3.cell? ⟨O, 0, none⟩ = some (.int .i64 4) := kO3.cell 0
  have q1 : w3.cell? ⟨O, 1, none⟩ = some (.string n) := kO3.cell 1
  have q2 : w3.cell? ⟨O, 2, none⟩ = some (.string t) := kO3.cell 2
  have q3 : w3.cell? ⟨O, 3, none⟩ = some (.string x) := kO3.cell 3
  have z0 : w3.cell? ⟨B, 0, none⟩ = some (.slice (some ⟨gs, 0, none⟩) SN cs) := kB3.cell 0
  have z1 : w3.cell? ⟨B, 1, none⟩ = some (.slice (some ⟨go, 0, none⟩) ON co) := kB3.cell 1
  have z2 : w3.cell? ⟨B, 2, none⟩ = some (.int .i64 cap) := kB3.cell 2
  have z3 : w3.cell? ⟨B, 3, none⟩ = some (.int .i64 fuse) := kB3.cell 3
  have z4 : w3.cell? ⟨B, 4, none⟩ = some (.bool false) := kB3.cell 4
  have hch := hdo.out
  replace kB3 := Rg.hid kB3
  replace kO3 := Rg.hid kO3
  replace kR3 := Rg.hid kR3
  replace hS3 := Rg.hid hS3
  replace hO3 := Rg.hid hO3
  replace hb3 := Rg.hid hb3
  replace hch := Rg.hid hch
  clear hdo hnt hfn
  refine wp_region_held_drew (S := (fun w' => w'.cell? ⟨B, 0, none⟩ = some (.slice (some ⟨gs, 0, none⟩) SN cs) ∧ w'.cell? ⟨B, 1, none⟩ = some (.slice (some ⟨go, 0, none⟩) ON co) ∧ w'.cell? ⟨B, 2, none⟩ = some (.int .i64 cap) ∧ w'.cell? ⟨B, 3, none⟩ = some (.int .i64 fuse) ∧ w'.cell? ⟨B, 4, none⟩ = some (.bool false) ∧ w'.cell? ⟨O, 0, none⟩ = some (.int .i64 4) ∧ w'.cell? ⟨O, 1, none⟩ = some (.string n) ∧ w'.cell? ⟨O, 2, none⟩ = some (.string t) ∧ w'.cell? ⟨O, 3, none⟩ = some (.string x))) (by kernel_rfl) ?_ (fun hH0 => ?_)
  · go_keep
  refine wpAnyH_take (i := 0) (oi := { dst := some 10, op := Op.fieldAddr 56 (Operand.tmp 3) 0, type := 0, pos := "ref.go:119", after := #[], guard := none }) (v := ?_) rfl (by kernel_rfl) (by kernel_rfl) (by kernel_rfl) (fun _ _ _ h => h) (Or.inl ⟨by rfl, ?_⟩) (by assumption) ?_
  rotate_left
  · (intro w hSw; (try dsimp only at hSw); go_simp); (try with_reducible rfl)
  simp only [Act.put, List.setIfInBounds_toArray, List.set_cons_zero, List.set_cons_succ]
  refine wpAnyH_take (i := 1) (oi := { dst := some 11, op := Op.load 3 (Operand.tmp 10), type := 3, pos := "ref.go:119", after := #[{ on := 0, ground := Ground.data }], guard := none }) (v := ?_) rfl (by kernel_rfl) (by kernel_rfl) (by kernel_rfl) (fun _ _ _ h => h) (Or.inl ⟨by rfl, ?_⟩) (by assumption) ?_
  rotate_left
  · (intro w hSw; (try dsimp only at hSw); go_simp); (try with_reducible rfl)
  simp only [Act.put, List.setIfInBounds_toArray, List.set_cons_zero, List.set_cons_succ]
  refine wpAnyH_take (i := 2) (oi := { dst := some 12, op := Op.binOp BinOp.eql 3 (Operand.tmp 11) (Operand.const (Value.int IntKind.i64 1)) 3, type := 4, pos := "ref.go:119", after := #[{ on := 1, ground := Ground.data }], guard := none }) (v := ?_) rfl (by kernel_rfl) (by kernel_rfl) (by kernel_rfl) (fun _ _ _ h => h) (Or.inl ⟨by rfl, ?_⟩) (by assumption) ?_
  rotate_left
  · (intro w hSw; (try dsimp only at hSw); go_simp); (try with_reducible rfl)
  simp only [Act.put, List.setIfInBounds_toArray, List.set_cons_zero, List.set_cons_succ]
  refine wpAnyH_take (i := 3) (oi := { dst := some 13, op := Op.move (Operand.tmp 12), type := 4, pos := "ref.go:119", after := #[{ on := 2, ground := Ground.data }], guard := none }) (v := ?_) rfl (by kernel_rfl) (by kernel_rfl) (by kernel_rfl) (fun _ _ _ h => h) (Or.inl ⟨by rfl, ?_⟩) (by assumption) ?_
  rotate_left
  · (intro w hSw; (try dsimp only at hSw); go_simp); (try with_reducible rfl)
  simp only [Act.put, List.setIfInBounds_toArray, List.set_cons_zero, List.set_cons_succ]
  refine wpAnyH_take (i := 4) (oi := { dst := some 14, op := Op.fieldAddr 56 (Operand.tmp 3) 0, type := 0, pos := "ref.go:119", after := #[{ on := 3, ground := Ground.guard }], guard := some (3, false) }) (v := ?_) rfl (by kernel_rfl) (by kernel_rfl) (by kernel_rfl) (fun _ _ _ h => h) (Or.inl ⟨by rfl, ?_⟩) (by assumption) ?_
  rotate_left
  · (intro w hSw; (try dsimp only at hSw); go_simp); (try with_reducible rfl)
  simp only [Act.put, List.setIfInBounds_toArray, List.set_cons_zero, List.set_cons_succ]
  refine wpAnyH_take (i := 5) (oi := { dst := some 15, op := Op.load 3 (Operand.tmp 14), type := 3, pos := "ref.go:119", after := #[{ on := 4, ground := Ground.data }, { on := 3, ground := Ground.guard }], guard := some (3, false) }) (v := ?_) rfl (by kernel_rfl) (by kernel_rfl) (by kernel_rfl) (fun _ _ _ h => h) (Or.inl ⟨by rfl, ?_⟩) (by assumption) ?_
  rotate_left
  · (intro w hSw; (try dsimp only at hSw); go_simp); (try with_reducible rfl)
  simp only [Act.put, List.setIfInBounds_toArray, List.set_cons_zero, List.set_cons_succ]
  refine wpAnyH_take (i := 6) (oi := { dst := some 16, op := Op.binOp BinOp.eql 3 (Operand.tmp 15) (Operand.const (Value.int IntKind.i64 2)) 3, type := 4, pos := "ref.go:119", after := #[{ on := 5, ground := Ground.data }, { on := 3, ground := Ground.guard }], guard := some (3, false) }) (v := ?_) rfl (by kernel_rfl) (by kernel_rfl) (by kernel_rfl) (fun _ _ _ h => h) (Or.inl ⟨by rfl, ?_⟩) (by assumption) ?_
  rotate_left
  · (intro w hSw; (try dsimp only at hSw); go_simp); (try with_reducible rfl)
  simp only [Act.put, List.setIfInBounds_toArray, List.set_cons_zero, List.set_cons_succ]
  refine wpAnyH_take (i := 7) (oi := { dst := some 17, op := Op.pick (Operand.tmp 13) (Operand.const (Value.bool true)) (Operand.tmp 16), type := 4, pos := "ref.go:119", after := #[{ on := 3, ground := Ground.data }, { on := 6, ground := Ground.data }], guard := none }) (v := ?_) rfl (by kernel_rfl) (by kernel_rfl) (by kernel_rfl) (fun _ _ _ h => h) (Or.inl ⟨by rfl, ?_⟩) (by assumption) ?_
  rotate_left
  · (intro w hSw; (try dsimp only at hSw); go_simp); (try with_reducible rfl)
  simp only [Act.put, List.setIfInBounds_toArray, List.set_cons_zero, List.set_cons_succ]
  refine wpAnyH_take (i := 8) (oi := { dst := some 18, op := Op.move (Operand.tmp 17), type := 4, pos := "ref.go:119", after := #[{ on := 7, ground := Ground.data }, { on := 3, ground := Ground.chain }], guard := none }) (v := ?_) rfl (by kernel_rfl) (by kernel_rfl) (by kernel_rfl) (fun _ _ _ h => h) (Or.inl ⟨by rfl, ?_⟩) (by assumption) ?_
  rotate_left
  · (intro w hSw; (try dsimp only at hSw); go_simp); (try with_reducible rfl)
  simp only [Act.put, List.setIfInBounds_toArray, List.set_cons_zero, List.set_cons_succ]
  refine wpAnyH_take (i := 9) (oi := { dst := some 19, op := Op.load 28 (Operand.tmp 2), type := 28, pos := "ref.go:119", after := #[{ on := 8, ground := Ground.guard }], guard := some (8, true) }) (v := undef) rfl (by kernel_rfl) (by kernel_rfl) (by kernel_rfl) (fun _ _ _ h => h) (Or.inr ⟨by rfl, rfl⟩) (by assumption) ?_
  simp only [Act.put, List.setIfInBounds_toArray, List.set_cons_zero, List.set_cons_succ]
  refine wpAnyH_take (i := 11) (oi := { dst := some 21, op := Op.load 56 (Operand.tmp 3), type := 56, pos := "ref.go:119", after := #[{ on := 8, ground := Ground.guard }], guard := some (8, true) }) (v := undef) rfl (by kernel_rfl) (by kernel_rfl) (by kernel_rfl) (fun _ _ _ h => h) (Or.inr ⟨by rfl, rfl⟩) (by assumption) ?_
  simp only [Act.put, List.setIfInBounds_toArray, List.set_cons_zero, List.set_cons_succ]
  refine wpAnyH_take (i := 14) (oi := { dst := some 24, op := Op.fieldAddr 28 (Operand.tmp 2) 2, type := 0, pos := "ref.go:119", after := #[{ on := 8, ground := Ground.guard }], guard := some (8, true) }) (v := undef) rfl (by kernel_rfl) (by kernel_rfl) (by kernel_rfl) (fun _ _ _ h => h) (Or.inr ⟨by rfl, rfl⟩) (by assumption) ?_
  simp only [Act.put, List.setIfInBounds_toArray, List.set_cons_zero, List.set_cons_succ]
  refine wpAnyH_take (i := 15) (oi := { dst := some 25, op := Op.load 3 (Operand.tmp 24), type := 3, pos := "ref.go:119", after := #[{ on := 14, ground := Ground.data }, { on := 8, ground := Ground.guard }], guard := some (8, true) }) (v := undef) rfl (by kernel_rfl) (by kernel_rfl) (by kernel_rfl) (fun _ _ _ h => h) (Or.inr ⟨by rfl, rfl⟩) (by assumption) ?_
  simp only [Act.put, List.setIfInBounds_toArray, List.set_cons_zero, List.set_cons_succ]
  refine wpAnyH_ready (rs := [10]) (by kernel_rfl) (by simp) ?_
  refine AllReadyH.cons (o := { dst := some 20, op := Op.call { callee := Callee.value (Operand.func 20), args := #[Operand.tmp 19], argTypes := #[28] }, type := 25, pos := "ref.go:119", after := #[{ on := 9, ground := Ground.data }, { on := 8, ground := Ground.chain }, { on := 8, ground := Ground.guard }], guard := some (8, true) }) rfl (fun K hK => ?_) AllReadyH.nil
  go_simp
  refine hK.out _ _ ?_ (fun hH10 => ?_)
  · go_keep
  clear hK K hH0
  refine wpAnyH_ready (rs := [12]) (by kernel_rfl) (by simp) ?_
  refine AllReadyH.cons (o := { dst := some 22, op := Op.call { callee := Callee.value (Operand.func 46), args := #[Operand.tmp 20, Operand.tmp 21], argTypes := #[25, 56] }, type := 25, pos := "ref.go:119", after := #[{ on := 10, ground := Ground.data }, { on := 11, ground := Ground.data }, { on := 10, ground := Ground.chain }, { on := 8, ground := Ground.guard }], guard := some (8, true) }) rfl (fun K hK => ?_) AllReadyH.nil
  go_simp
  refine hK.out _ _ ?_ (fun hH12 => ?_)
  · go_keep
  clear hK K hH10
  refine wpAnyH_ready (rs := [13]) (by kernel_rfl) (by simp) ?_
  refine AllReadyH.cons (o := { dst := some 23, op := Op.call { callee := Callee.value (Operand.func 44), args := #[Operand.tmp 22], argTypes := #[25] }, type := 3, pos := "ref.go:119", after := #[{ on := 12, ground := Ground.data }, { on := 12, ground := Ground.chain }, { on := 8, ground := Ground.guard }], guard := some (8, true) }) rfl (fun K hK => ?_) AllReadyH.nil
  go_simp
  refine hK.out _ _ ?_ (fun hH13 => ?_)
  · go_keep
  clear hK K hH12
  refine wpAnyH_take (i := 16) (oi := { dst := some 26, op := Op.binOp BinOp.gtr 3 (Operand.tmp 23) (Operand.tmp 25) 3, type := 4, pos := "ref.go:119", after := #[{ on := 13, ground := Ground.data }, { on := 15, ground := Ground.data }, { on := 8, ground := Ground.guard }], guard := some (8, true) }) (v := undef) rfl (by kernel_rfl) (by kernel_rfl) (by kernel_rfl) (fun _ _ _ h => h) (Or.inr ⟨by rfl, rfl⟩) (by assumption) ?_
  simp only [Act.put, List.setIfInBounds_toArray, List.set_cons_zero, List.set_cons_succ]
  refine wpAnyH_take (i := 17) (oi := { dst := some 27, op := Op.pick (Operand.tmp 18) (Operand.tmp 26) (Operand.const (Value.bool false)), type := 4, pos := "ref.go:119", after := #[{ on := 8, ground := Ground.data }, { on := 16, ground := Ground.data }], guard := none }) (v := ?_) rfl (by kernel_rfl) (by kernel_rfl) (by kernel_rfl) (fun _ _ _ h => h) (Or.inl ⟨by rfl, ?_⟩) (by assumption) ?_
  rotate_left
  · (intro w hSw; (try dsimp only at hSw); go_simp); (try with_reducible rfl)
  simp only [Act.put, List.setIfInBounds_toArray, List.set_cons_zero, List.set_cons_succ]
  refine wpAnyH_done (by kernel_rfl) ?_ _
  clear hH13
  have kB6 := kB3.out.drew
  have kO6 := kO3.out.drew
  have kR6 := kR3.out.drew
  have hS6 := hS3.out.drew
  have hO6 := hO3.out.drew
  have hb6 := hb3.out.drew
  replace hch := hch.out
  clear kB3 kO3 kR3 hS3 hO3 hb3 q0 q1 q2 q3 z0 z1 z2 z3 z4 hj hy0 hy1 hy2
  generalize w3.drew = w6 at *
  have z0 : w6.cell? ⟨B, 0, none⟩ = some (.slice (some ⟨gs, 0, none⟩) SN cs) := kB6.cell 0
  have z1 : w6.cell? ⟨B, 1, none⟩ = some (.slice (some ⟨go, 0, none⟩) ON co) := kB6.cell 1
  have z2 : w6.cell? ⟨B, 2, none⟩ = some (.int .i64 cap) := kB6.cell 2
  have z3 : w6.cell? ⟨B, 3, none⟩ = some (.int .i64 fuse) := kB6.cell 3
  have z4 : w6.cell? ⟨B, 4, none⟩ = some (.bool false) := kB6.cell 4
  go_upto_region 4 with fail
  rw [hd0.out] at hch
  by_cases hz : fuse = 0
  · subst hz
    have hop : Dsk.operate ⟨safe, ops, cap, 0, false⟩ ⟨4, n, t, x⟩ = (⟨safe, ops, cap, 0, true⟩, 9) := rfl
    rw [hop] at hch
    subst hch
    have HB' : Hid (∀ W, Calls Try.prog 56 #[.agg #[.slice (some ⟨gs, 0, none⟩) SN cs, .slice (some ⟨go, 0, none⟩) ON co, .int .i64 cap, .int .i64 0, .bool false]] W fun e w' => e = .returned (.tuple #[.agg #[.slice (some ⟨gs, 0, none⟩) SN cs, .slice (some ⟨go, 0, none⟩) ON co, .int .i64 cap, .int .i64 0, .bool true], .bool false]) ∧ Below W.heap.size W w') := fun W => (HB.out (some ⟨gs, 0, none⟩) SN cs (some ⟨go, 0, none⟩) ON co cap 0 false W (by omega) (by omega)).mono fun e w' ⟨h1, h2⟩ => ⟨by rw [h1]; simp, h2⟩
    have hD3' : Hid (DAt w6 (.agg #[.slice (some ⟨gs, 0, none⟩) SN cs, .slice (some ⟨go, 0, none⟩) ON co, .int .i64 cap, .int .i64 0, .bool true]) ⟨safe, ops, cap, 0, true⟩) := by
      rw [hSN.out, hON.out]
      exact ⟨some ⟨gs, 0, none⟩, cs, some ⟨go, 0, none⟩, co, rfl, hS6, hO6.toRow, by rw [← hSN.out]; exact hcs2, hO6.le⟩
    have kR3' := Rg.hid kR6
    have hb3' := Rg.hid hb6
    clear kB6 kO6 kR6 hS6 hO6 hb6 HB hdO hd0 hSN hON hwO hop
    go_upto_region 6 with (go_at_call 56; refine (HB'.out _).mono ?_; rintro e w4 ⟨rfl, b4⟩)
    have kE5 : Rg.Bk w4.heap.size [.slice (some ⟨gs, 0, none⟩) SN cs, .slice (some ⟨go, 0, none⟩) ON co, .int .i64 cap, .int .i64 0, .bool true] 28 (w4.alloc (.cells #[.slice (some ⟨gs, 0, none⟩) SN cs, .slice (some ⟨go, 0, none⟩) ON co, .int .i64 cap, .int .i64 0, .bool true] 28)) := Rg.Bk.new rfl
    have kR5 := (kR3'.out.below b4 kR3'.out.lt).old (.cells #[.slice (some ⟨gs, 0, none⟩) SN cs, .slice (some ⟨go, 0, none⟩) ON co, .int .i64 cap, .int .i64 0, .bool true] 28)
    have b5 := Rg.chain b4 (Rg.al1 w4 (.cells #[.slice (some ⟨gs, 0, none⟩) SN cs, .slice (some ⟨go, 0, none⟩) ON co, .int .i64 cap, .int .i64 0, .bool true] 28))
    have hD5 := hD3'.out.below b5
    have hb5 := Rg.chain hb3'.out b5
    have hEw : w.heap.size ≤ w4.heap.size := Nat.le_trans hb3'.out.size b4.size
    have hER : w4.heap.size ≠ R := fun h => by have := (kR3'.out.below b4 kR3'.out.lt).lt; omega
    clear b4 b5 kR3' hD3' hb3' HB' z0 z1 z2 z3 z4
    generalize World.alloc _ _ = w5 at *
    generalize w4.heap.size = E at *
    obtain ⟨kE, oE⟩ := Rg.ret5 kR5 rfl (.slice (some ⟨gs, 0, none⟩) SN cs) (.slice (some ⟨go, 0, none⟩) ON co) (.int .i64 cap) (.int .i64 0) (.bool true)
    have hDE := hD5.only kR5 plainZ oE
    have post := Rg.hid (⟨_, rfl, hDE, hb5.trans (oE.bel hRw)⟩ : DPost w (_, 9) (.returned _) _)
    replace kE := Rg.hid kE
    have d0' : w5.cell? ⟨E, 0, none⟩ = some (.slice (some ⟨gs, 0, none⟩) SN cs) := kE5.cell 0
    have d1' : w5.cell? ⟨E, 1, none⟩ = some (.slice (some ⟨go, 0, none⟩) ON co) := kE5.cell 1
    have d2' : w5.cell? ⟨E, 2, none⟩ = some (.int .i64 cap) := kE5.cell 2
    have d3' : w5.cell? ⟨E, 3, none⟩ = some (.int .i64 0) := kE5.cell 3
    have d4' : w5.cell? ⟨E, 4, none⟩ = some (.bool true) := kE5.cell 4
    have r0 : w5.cell? ⟨R, 0, none⟩ = some (.slice none 0 0) := kR5.cell 0
    have r1 : w5.cell? ⟨R, 1, none⟩ = some (.slice none 0 0) := kR5.cell 1
    have r2 : w5.cell? ⟨R, 2, none⟩ = some (.int .i64 0) := kR5.cell 2
    have r3 : w5.cell? ⟨R, 3, none⟩ = some (.int .i64 0) := kR5.cell 3
    have r4 : w5.cell? ⟨R, 4, none⟩ = some (.bool false) := kR5.cell 4
    have rf := kR5.thaw
    clear oE kR5 hDE hD5 kE5
    go_wp2
    replace kE := kE.out
    replace post := post.out
    generalize World.setCell _ _ _ = WE at *
    exact bodyPost_ret (v := .tuple #[.agg #[.slice (some ⟨gs, 0, none⟩) SN cs, .slice (some ⟨go, 0, none⟩) ON co, .int .i64 cap, .int .i64 0, .bool true], .int .i64 9]) (by simp [results, Try.results54, go_sem, kE.cell]) rfl post
  obtain ⟨fz, hfz⟩ : ∃ fz, fz = if fuse > 0 then fuse - 1 else fuse := ⟨_, rfl⟩
  have hop : Dsk.operate ⟨safe, ops, cap, fuse, false⟩ ⟨4, n, t, x⟩ = (⟨safe, ops ++ [⟨4, n, t, x⟩], cap, fz, false⟩, 0) := by
    unfold Dsk.operate
    rw [if_neg hz, Dsk.burn_eq, hfz]
    rfl
  rw [hop] at hch
  subst hch
  have HB' : Hid (∀ W, Calls Try.prog 56 #[.agg #[.slice (some ⟨gs, 0, none⟩) SN cs, .slice (some ⟨go, 0, none⟩) ON co, .int .i64 cap, .int .i64 fuse, .bool false]] W fun e w' => e = .returned (.tuple #[.agg #[.slice (some ⟨gs, 0, none⟩) SN cs, .slice (some ⟨go, 0, none⟩) ON co, .int .i64 cap, .int .i64 fz, .bool false], .bool true]) ∧ Below W.heap.size W w') := fun W => (HB.out (some ⟨gs, 0, none⟩) SN cs (some ⟨go, 0, none⟩) ON co cap fuse false W hfu hfu').mono fun e w' ⟨h1, h2⟩ => ⟨by rw [h1, hfz]; simp [hz], h2⟩
  have kR3' := Rg.hid kR6
  have kO3' := Rg.hid kO6
  have hS3' := Rg.hid hS6
  have hO3' := Rg.hid hO6
  have hb3' := Rg.hid hb6
  clear kB6 kO6 kR6 hS6 hO6 hb6 HB hdO hd0 hwO hop hfz hfu hfu' hz
  go_upto_region 7 with (go_at_call 56; refine (HB'.out _).mono ?_; rintro e w4 ⟨rfl, b4⟩)
  have kE5 : Rg.Bk w4.heap.size [.slice (some ⟨gs, 0, none⟩) SN cs, .slice (some ⟨go, 0, none⟩) ON co, .int .i64 cap, .int .i64 fz, .bool false] 28 (w4.alloc (.cells #[.slice (some ⟨gs, 0, none⟩) SN cs, .slice (some ⟨go, 0, none⟩) ON co, .int .i64 cap, .int .i64 fz, .bool false] 28)) := Rg.Bk.new rfl
  have kR5 := (kR3'.out.below b4 kR3'.out.lt).old (.cells #[.slice (some ⟨gs, 0, none⟩) SN cs, .slice (some ⟨go, 0, none⟩) ON co, .int .i64 cap, .int .i64 fz, .bool false] 28)
  have b5 := Rg.chain b4 (Rg.al1 w4 (.cells #[.slice (some ⟨gs, 0, none⟩) SN cs, .slice (some ⟨go, 0, none⟩) ON co, .int .i64 cap, .int .i64 fz, .bool false] 28))
  have hS5 := hS3'.out.below b5
  have hO5 := hO3'.out.below b5
  have kO5 := kO3'.out.below b5 kO3'.out.lt
  have hgE : go ≠ w4.heap.size := fun h => by have := (hO3'.out.below b4).lt; omega
  have hb5 := Rg.chain hb3'.out b5
  have hEw : w.heap.size ≤ w4.heap.size := Nat.le_trans hb3'.out.size b4.size
  have hER : w4.heap.size ≠ R := fun h => by have := (kR3'.out.below b4 kR3'.out.lt).lt; omega
  clear b4 b5 hO3' kO3' kR3' hS3' hb3' HB' z0 z1 z2 z3 z4
  generalize World.alloc _ _ = w5 at *
  generalize w4.heap.size = E at *
  obtain ⟨j0, hj, hy0, hy1, hy2⟩ := infoOp'
  have hRl5 := kR5.lt
  have hEl5 := kE5.lt
  have hgl5 := hO5.lt
  have hsl5 : gs < w5.heap.size := hS5.some.1
  have kE6 := kE5.old (.cells #[.int .i64 4, .string n, .string t, .string x] 56)
  have kR6 := kR5.old (.cells #[.int .i64 4, .string n, .string t, .string x] 56)
  have hO6 := hO5.below (Rg.al1 w5 (.cells #[.int .i64 4, .string n, .string t, .string x] 56))
  have hS6 := hS5.below (Rg.al1 w5 (.cells #[.int .i64 4, .string n, .string t, .string x] 56))
  have hb6 := Rg.chain hb5 (Rg.al1 w5 (.cells #[.int .i64 4, .string n, .string t, .string x] 56))
  obtain ⟨g9, cap9, rest9, w9, hap9, hown9, _, hb9, hoth9, hg9⟩ := hO6.append (P := Try.prog) ⟨4, n, t, x⟩ 26 26 j0 _ 56 Try.underlying26 hj hy0 hy1 hy2 rfl ⟨w5.heap.size, 0, none⟩ 1 (Rg.At.add (fun i u hu => by rw [Nat.zero_add, (Rg.Bk.new (C := [.int .i64 4, .string n, .string t, .string x]) (ty := 56) rfl).cell i]; exact hu)) hb6.size (by have := hON.out; omega) (by have := hON.out; unfold maxLen; omega)
  rw [← hON.out] at hap9
  have hgE9 : g9 ≠ E := by simp at hg9; omega
  have hgR9 : g9 ≠ R := by simp at hg9; omega
  have kE9 : Rg.Bk E [.slice (some ⟨gs, 0, none⟩) SN cs, .slice (some ⟨go, 0, none⟩) ON co, .int .i64 cap, .int .i64 fz, .bool false] 28 w9 := kE6.same (hoth9 E (by simp; omega) (Ne.symm hgE))
  have kR9 := kR6.same (hoth9 R (by simp; omega) (Ne.symm hgR))
  have hS9 := row_same hS6 (hoth9 gs (by simp; omega) hne2) hb9.size
  have hb9w := hb6.trans hb9
  have hD9 : DAt w9 (.agg #[.slice (some ⟨gs, 0, none⟩) SN cs, .slice (some ⟨g9, 0, none⟩) (ON + 1) cap9, .int .i64 cap, .int .i64 fz, .bool false]) ⟨safe, ops ++ [⟨4, n, t, x⟩], cap, fz, false⟩ := by
    rw [hSN.out, hON.out]
    exact ⟨some ⟨gs, 0, none⟩, cs, some ⟨g9, 0, none⟩, cap9, by simp [dval], hS9, hown9.toRow, by rw [← hSN.out]; exact hcs2, hown9.le⟩
  have hap9 : Hid ((Builtin.append_ #[26, 26] 26 #[.slice (some ⟨go, 0, none⟩) ON co, .slice (some ⟨w5.heap.size, 0, none⟩) 1 1]).run Try.prog (w5.alloc (.cells #[.int .i64 4, .string n, .string t, .string x] 56)) = .ok (.slice (some ⟨g9, 0, none⟩) (ON + 1) cap9) w9) := hap9
  have z1 : w5.cell? ⟨E, 1, none⟩ = some (.slice (some ⟨go, 0, none⟩) ON co) := kE5.cell 1
  have z1' : w9.cell? ⟨E, 1, none⟩ = some (.slice (some ⟨go, 0, none⟩) ON co) := kE9.cell 1
  have zf := kE9.thaw
  have q0 : w5.cell? ⟨O, 0, none⟩ = some (.int .i64 4) := kO5.cell 0
  have q1 : w5.cell? ⟨O, 1, none⟩ = some (.string n) := kO5.cell 1
  have q2 : w5.cell? ⟨O, 2, none⟩ = some (.string t) := kO5.cell 2
  have q3 : w5.cell? ⟨O, 3, none⟩ = some (.string x) := kO5.cell 3
  have kE10 : Rg.Bk E [.slice (some ⟨gs, 0, none⟩) SN cs, .slice (some ⟨g9, 0, none⟩) (ON + 1) cap9, .int .i64 cap, .int .i64 fz, .bool false] 28 (w9.setCell ⟨E, 1, none⟩ (.slice (some ⟨g9, 0, none⟩) (ON + 1) cap9)) := kE9.set 1 (.slice (some ⟨g9, 0, none⟩) (ON + 1) cap9)
  have o10 := Rg.Only.setCell w9 E 1 (.slice (some ⟨g9, 0, none⟩) (ON + 1) cap9)
  have kR10 := Rg.hid (kR9.same (o10.block R (Ne.symm hER)))
  have hD10 := Rg.hid (hD9.only kE9 plainD o10)
  have hb10 := Rg.hid (hb9w.trans (o10.bel hEw))
  replace kE10 := Rg.hid kE10
  clear hj hy0 hy1 hy2 kE5 kR5 hO5 kO5 hS5 hb5 kE6 kR6 hO6 hS6 hb6 hown9 hb9 hoth9 hg9 kE9 kR9 hS9 hb9w hD9 o10 hSN hON hRl5 hEl5 hgl5 hsl5
  go_upto_region 8 with (at_builtin; refine Rg.wpList_append_run rfl (.tmp 38) (.tmp 40) 26 rfl _ _ rfl rfl _ _ hap9.out ?_)
  replace kE10 := kE10.out
  replace kR10 := kR10.out
  replace hD10 := hD10.out
  replace hb10 := hb10.out
  clear z1 z1' zf q0 q1 q2 q3 hap9
  generalize World.setCell _ _ _ = w10 at *
  obtain ⟨kE, oE⟩ := Rg.ret5 kR10 rfl (.slice (some ⟨gs, 0, none⟩) SN cs) (.slice (some ⟨g9, 0, none⟩) (ON + 1) cap9) (.int .i64 cap) (.int .i64 fz) (.bool false)
  have hDE := hD10.only kR10 plainZ oE
  have post := Rg.hid (⟨_, rfl, hDE, hb10.trans (oE.bel hRw)⟩ : DPost w (_, 0) (.returned _) _)
  replace kE := Rg.hid kE
  have d0' : w10.cell? ⟨E, 0, none⟩ = some (.slice (some ⟨gs, 0, none⟩) SN cs) := kE10.cell 0
  have d1' : w10.cell? ⟨E, 1, none⟩ = some (.slice (some ⟨g9, 0, none⟩) (ON + 1) cap9) := kE10.cell 1
  have d2' : w10.cell? ⟨E, 2, none⟩ = some (.int .i64 cap) := kE10.cell 2
  have d3' : w10.cell? ⟨E, 3, none⟩ = some (.int .i64 fz) := kE10.cell 3
  have d4' : w10.cell? ⟨E, 4, none⟩ = some (.bool false) := kE10.cell 4
  have r0 : w10.cell? ⟨R, 0, none⟩ = some (.slice none 0 0) := kR10.cell 0
  have r1 : w10.cell? ⟨R, 1, none⟩ = some (.slice none 0 0) := kR10.cell 1
  have r2 : w10.cell? ⟨R, 2, none⟩ = some (.int .i64 0) := kR10.cell 2
  have r3 : w10.cell? ⟨R, 3, none⟩ = some (.int .i64 0) := kR10.cell 3
  have r4 : w10.cell? ⟨R, 4, none⟩ = some (.bool false) := kR10.cell 4
  have rf := kR10.thaw
  clear oE kR10 hDE hD10 kE10
  go_wp2
  replace kE := kE.out
  replace post := post.out
  generalize World.setCell _ _ _ = WE at *
  exact bodyPost_ret (v := .tuple #[.agg #[.slice (some ⟨gs, 0, none⟩) SN cs, .slice (some ⟨g9, 0, none⟩) (ON + 1) cap9, .int .i64 cap, .int .i64 fz, .bool false], .int .i64 0]) (by simp [results, Try.results54, go_sem, kE.cell]) rfl post
end Go.Proofs.Ytempiajepomajaa
