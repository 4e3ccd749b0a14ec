/-
  Layer 6: the document's disk: Sync.
-/
import Derived.Test.YtempiajepomajaaRf11
namespace Go.Proofs.Ytempiajepomajaa
open Go.RowKit

set_option maxHeartbeats 2000000 in
set_option maxRecDepth 100000 in
theorem rsync_any (v : Value) (d : Dsk.Dk) (w : World) (hd : Dsk.Ok d) (h : DAt w v d) :
    Calls Try.prog 35 #[v] w fun e w' => DPost w (Dsk.sync d) e w' := by
  have HO : Hid (∀ W, Below w.heap.size w W → Calls Try.prog 52 #[v] W fun e w' => ∃ gs cs go co, e = .returned (.agg #[.slice (some ⟨gs, 0, none⟩) d.safe.length cs, .slice (some ⟨go, 0, none⟩) d.ops.length co, .int .i64 d.cap, .int .i64 d.fuse, .bool d.down]) ∧ DAt w' (.agg #[.slice (some ⟨gs, 0, none⟩) d.safe.length cs, .slice (some ⟨go, 0, none⟩) d.ops.length co, .int .i64 d.cap, .int .i64 d.fuse, .bool d.down]) d ∧ Below W.heap.size W w') := fun W hW => (rown_any v d W hd (h.below hW)).mono fun e w' ⟨gs, cs, go, co, rest, h1, h2, h3, h4, h5⟩ => ⟨gs, cs, go, co, h1, ⟨some ⟨gs, 0, none⟩, cs, some ⟨go, 0, none⟩, co, rfl, h2, h4.toRow, h3, h4.le⟩, h5⟩
  have hsy : Hid (Dsk.sync d = if d.down = true then (d, 9) else if d.fuse = 0 then ({ d with down := true }, 9) else (Dsk.settle (Dsk.burn d) d.ops.length, 0)) := rfl
  have hfu := hd.fuse
  have hfu' := hd.fuse'
  have HB := Rg.hid rburn_any
  have HF := Rg.hid rfiles_any
  have hdO := Rg.hid hd
  obtain ⟨sa, sc, oa, oc, rfl, hS, hO, hsc, hoc⟩ := h
  generalize Dsk.sync d = r at *
  obtain ⟨safe, ops, cap, fuse, down⟩ := d
  unfold dval at *
  dsimp only at *
  obtain ⟨d0, hd0⟩ : ∃ d0 : Dsk.Dk, d0 = ⟨safe, ops, cap, fuse, down⟩ := ⟨_, rfl⟩
  rw [← hd0] at HO
  replace hd0 := Rg.hid hd0
  generalize safe.length = SN at *
  generalize ops.length = ON at *
  clear hS hO hd hsc hoc
  have kB1 : Rg.Bk w.heap.size [.slice sa SN sc, .slice oa ON oc, .int .i64 cap, .int .i64 fuse, .bool down] 28 ((w.alloc (.cells #[.slice sa SN sc, .slice oa ON oc, .int .i64 cap, .int .i64 fuse, .bool down] 28)).alloc (.cells #[.slice none 0 0, .slice none 0 0, .int .i64 0, .int .i64 0, .bool false] 28)) := (Rg.Bk.new rfl).old _
  have kR1 : Rg.Bk (w.heap.size + 1) [.slice none 0 0, .slice none 0 0, .int .i64 0, .int .i64 0, .bool false] 28 ((w.alloc (.cells #[.slice sa SN sc, .slice oa ON oc, .int .i64 cap, .int .i64 fuse, .bool down] 28)).alloc (.cells #[.slice none 0 0, .slice none 0 0, .int .i64 0, .int .i64 0, .bool false] 28)) := Rg.Bk.new (by simp)
  have hb1 := Rg.al2 w (.cells #[.slice sa SN sc, .slice oa ON oc, .int .i64 cap, .int .i64 fuse, .bool down] 28) (.cells #[.slice none 0 0, .slice none 0 0, .int .i64 0, .int .i64 0, .bool false] 28)
  go_enter Try.func35, Try.ntmps35
  go_upto_region 1 with fail
  generalize World.alloc _ _ = w1 at *
  obtain ⟨B, hB⟩ : ∃ B, B = w.heap.size := ⟨_, rfl⟩
  obtain ⟨R, hR⟩ : ∃ R, R = w.heap.size + 1 := ⟨_, rfl⟩
  rw [← hR] at kR1 ⊢
  rw [← hB] at kB1 ⊢
  have hBR : B ≠ R := by omega
  have hBw : w.heap.size ≤ B := by omega
  have hRw : w.heap.size ≤ R := by omega
  clear hB hR
  have c0 : w1.cell? ⟨B, 0, none⟩ = some (.slice sa SN sc) := kB1.cell 0
  have c1 : w1.cell? ⟨B, 1, none⟩ = some (.slice oa ON oc) := kB1.cell 1
  have c2 : w1.cell? ⟨B, 2, none⟩ = some (.int .i64 cap) := kB1.cell 2
  have c3 : w1.cell? ⟨B, 3, none⟩ = some (.int .i64 fuse) := kB1.cell 3
  have c4 : w1.cell? ⟨B, 4, none⟩ = some (.bool down) := kB1.cell 4
  have kB1' := Rg.hid kB1
  have kR1' := Rg.hid kR1
  clear kB1 kR1
  go_upto_region 2 with (go_at_call 52; refine (HO.out _ hb1).mono ?_; rintro e w2 ⟨gs, cs, go, co, rfl, hD2, b2⟩; have kB2 := kB1'.out.below b2 kB1'.out.lt; have y0 := kB2.cell 0; have y1 := kB2.cell 1; have y2 := kB2.cell 2; have y3 := kB2.cell 3; have y4 := kB2.cell 4; simp only [List.getElem?_cons_zero, List.getElem?_cons_succ] at y0 y1 y2 y3 y4; have yf := kB2.thaw)
  have kR2 := kR1'.out.below b2 kR1'.out.lt
  have hb2 := Rg.chain hb1 b2
  obtain ⟨kB3, oB⟩ := Rg.ret5 kB2 rfl (.slice (some ⟨gs, 0, none⟩) SN cs) (.slice (some ⟨go, 0, none⟩) ON co) (.int .i64 cap) (.int .i64 fuse) (.bool down)
  have kR3 := kR2.same (oB.block R (Ne.symm hBR))
  have hD3 := hD2.only kB2 plainD oB
  have hb3 := hb2.trans (oB.bel hBw)
  clear y0 y1 y2 y3 y4 yf kB2 kR2 oB hD2 b2 hb2 HO c0 c1 c2 c3 c4 kB1' kR1' hb1
  generalize World.setCell _ _ _ = w3 at *
  cases down
  case true =>
    rw [if_pos rfl] at hsy
    have hch' := hsy.out
    subst hch'
    rw [hd0.out] at hD3
    clear HB HF hdO
    obtain ⟨kE, oE⟩ := Rg.ret5 kR3 rfl (.slice (some ⟨gs, 0, none⟩) SN cs) (.slice (some ⟨go, 0, none⟩) ON co) (.int .i64 cap) (.int .i64 fuse) (.bool true)
    have hDE := hD3.only kR3 plainZ oE
    have post := Rg.hid (⟨_, rfl, hDE, hb3.trans (oE.bel hRw)⟩ : DPost w (_, 9) (.returned _) _)
    replace kE := Rg.hid kE
    have d0' : w3.cell? ⟨B, 0, none⟩ = some (.slice (some ⟨gs, 0, none⟩) SN cs) := kB3.cell 0
    have d1' : w3.cell? ⟨B, 1, none⟩ = some (.slice (some ⟨go, 0, none⟩) ON co) := kB3.cell 1
    have d2' : w3.cell? ⟨B, 2, none⟩ = some (.int .i64 cap) := kB3.cell 2
    have d3' : w3.cell? ⟨B, 3, none⟩ = some (.int .i64 fuse) := kB3.cell 3
    have d4' : w3.cell? ⟨B, 4, none⟩ = some (.bool true) := kB3.cell 4
    have r0 : w3.cell? ⟨R, 0, none⟩ = some (.slice none 0 0) := kR3.cell 0
    have r1 : w3.cell? ⟨R, 1, none⟩ = some (.slice none 0 0) := kR3.cell 1
    have r2 : w3.cell? ⟨R, 2, none⟩ = some (.int .i64 0) := kR3.cell 2
    have r3 : w3.cell? ⟨R, 3, none⟩ = some (.int .i64 0) := kR3.cell 3
    have r4 : w3.cell? ⟨R, 4, none⟩ = some (.bool false) := kR3.cell 4
    have rf := kR3.thaw
    clear oE kR3 hDE hD3 kB3
    go_wp2
    replace kE := kE.out
    replace post := post.out
    generalize World.setCell _ _ _ = WE at *
    exact bodyPost_ret (v := .tuple #[.agg #[.slice (some ⟨gs, 0, none⟩) SN cs, .slice (some ⟨go, 0, none⟩) ON co, .int .i64 cap, .int .i64 fuse, .bool true], .int .i64 9]) (by simp [results, Try.results35, go_sem, kE.cell]) rfl post
  case false =>
    rw [if_neg (by simp)] at hsy
    have z0 : w3.cell? ⟨B, 0, none⟩ = some (.slice (some ⟨gs, 0, none⟩) SN cs) := kB3.cell 0
    have z1 : w3.cell? ⟨B, 1, none⟩ = some (.slice (some ⟨go, 0, none⟩) ON co) := kB3.cell 1
    have z2 : w3.cell? ⟨B, 2, none⟩ = some (.int .i64 cap) := kB3.cell 2
    have z3 : w3.cell? ⟨B, 3, none⟩ = some (.int .i64 fuse) := kB3.cell 3
    have z4 : w3.cell? ⟨B, 4, none⟩ = some (.bool false) := kB3.cell 4
    go_upto_region 4 with fail
    by_cases hz : fuse = 0
    · subst hz
      rw [if_pos rfl] at hsy
      have hch' := hsy.out
      subst hch'
      have HB' : Hid (∀ W, Calls Try.prog 56 #[.agg #[.slice (some ⟨gs, 0, none⟩) SN cs, .slice (some ⟨go, 0, none⟩) ON co, .int .i64 cap, .int .i64 0, .bool false]] W fun e w' => e = .returned (.tuple #[.agg #[.slice (some ⟨gs, 0, none⟩) SN cs, .slice (some ⟨go, 0, none⟩) ON co, .int .i64 cap, .int .i64 0, .bool true], .bool false]) ∧ Below W.heap.size W w') := fun W => (HB.out (some ⟨gs, 0, none⟩) SN cs (some ⟨go, 0, none⟩) ON co cap 0 false W (by omega) (by omega)).mono fun e w' ⟨h1, h2⟩ => ⟨by rw [h1]; simp, h2⟩
      have hfin : Hid (∀ W, DAt W (.agg #[.slice (some ⟨gs, 0, none⟩) SN cs, .slice (some ⟨go, 0, none⟩) ON co, .int .i64 cap, .int .i64 0, .bool false]) d0 → DAt W (.agg #[.slice (some ⟨gs, 0, none⟩) SN cs, .slice (some ⟨go, 0, none⟩) ON co, .int .i64 cap, .int .i64 0, .bool true]) ⟨safe, ops, cap, 0, true⟩) := fun W h => by
        rw [hd0.out] at h
        obtain ⟨e1, e2, _, _, _, h6, h7, h8, h9⟩ := h.look
        rw [e1, e2]
        exact ⟨some ⟨gs, 0, none⟩, cs, some ⟨go, 0, none⟩, co, rfl, h6, h7, h8, h9⟩
      have kR3' := Rg.hid kR3
      have hD3' := Rg.hid hD3
      have hb3' := Rg.hid hb3
      clear kB3 kR3 hD3 hb3 HB HF hdO hd0 hsy hfu hfu'
      go_upto_region 6 with (go_at_call 56; refine (HB'.out _).mono ?_; rintro e w4 ⟨rfl, b4⟩)
      have kE5 : Rg.Bk w4.heap.size [.slice (some ⟨gs, 0, none⟩) SN cs, .slice (some ⟨go, 0, none⟩) ON co, .int .i64 cap, .int .i64 0, .bool true] 28 (w4.alloc (.cells #[.slice (some ⟨gs, 0, none⟩) SN cs, .slice (some ⟨go, 0, none⟩) ON co, .int .i64 cap, .int .i64 0, .bool true] 28)) := Rg.Bk.new rfl
      have kR5 := (kR3'.out.below b4 kR3'.out.lt).old (.cells #[.slice (some ⟨gs, 0, none⟩) SN cs, .slice (some ⟨go, 0, none⟩) ON co, .int .i64 cap, .int .i64 0, .bool true] 28)
      have b5 := Rg.chain b4 (Rg.al1 w4 (.cells #[.slice (some ⟨gs, 0, none⟩) SN cs, .slice (some ⟨go, 0, none⟩) ON co, .int .i64 cap, .int .i64 0, .bool true] 28))
      have hD5 := hD3'.out.below b5
      have hb5 := Rg.chain hb3'.out b5
      have hEw : w.heap.size ≤ w4.heap.size := Nat.le_trans hb3'.out.size b4.size
      have hER : w4.heap.size ≠ R := fun h => by have := (kR3'.out.below b4 kR3'.out.lt).lt; omega
      clear b4 b5 kR3' hD3' hb3' HB' z0 z1 z2 z3 z4
      generalize World.alloc _ _ = w5 at *
      generalize w4.heap.size = E at *
      replace hD5 := hfin.out _ hD5
      obtain ⟨kE, oE⟩ := Rg.ret5 kR5 rfl (.slice (some ⟨gs, 0, none⟩) SN cs) (.slice (some ⟨go, 0, none⟩) ON co) (.int .i64 cap) (.int .i64 0) (.bool true)
      have hDE := hD5.only kR5 plainZ oE
      have post := Rg.hid (⟨_, rfl, hDE, hb5.trans (oE.bel hRw)⟩ : DPost w (_, 9) (.returned _) _)
      replace kE := Rg.hid kE
      have d0' : w5.cell? ⟨E, 0, none⟩ = some (.slice (some ⟨gs, 0, none⟩) SN cs) := kE5.cell 0
      have d1' : w5.cell? ⟨E, 1, none⟩ = some (.slice (some ⟨go, 0, none⟩) ON co) := kE5.cell 1
      have d2' : w5.cell? ⟨E, 2, none⟩ = some (.int .i64 cap) := kE5.cell 2
      have d3' : w5.cell? ⟨E, 3, none⟩ = some (.int .i64 0) := kE5.cell 3
      have d4' : w5.cell? ⟨E, 4, none⟩ = some (.bool true) := kE5.cell 4
      have r0 : w5.cell? ⟨R, 0, none⟩ = some (.slice none 0 0) := kR5.cell 0
      have r1 : w5.cell? ⟨R, 1, none⟩ = some (.slice none 0 0) := kR5.cell 1
      have r2 : w5.cell? ⟨R, 2, none⟩ = some (.int .i64 0) := kR5.cell 2
      have r3 : w5.cell? ⟨R, 3, none⟩ = some (.int .i64 0) := kR5.cell 3
      have r4 : w5.cell? ⟨R, 4, none⟩ = some (.bool false) := kR5.cell 4
      have rf := kR5.thaw
      clear oE kR5 hDE hD5 kE5
      go_wp2
      replace kE := kE.out
      replace post := post.out
      generalize World.setCell _ _ _ = WE at *
      exact bodyPost_ret (v := .tuple #[.agg #[.slice (some ⟨gs, 0, none⟩) SN cs, .slice (some ⟨go, 0, none⟩) ON co, .int .i64 cap, .int .i64 0, .bool true], .int .i64 9]) (by simp [results, Try.results35, go_sem, kE.cell]) rfl post
    · rw [if_neg hz] at hsy
      obtain ⟨fz, hfz⟩ : ∃ fz, fz = if fuse > 0 then fuse - 1 else fuse := ⟨_, rfl⟩
      have HB' : Hid (∀ W, Calls Try.prog 56 #[.agg #[.slice (some ⟨gs, 0, none⟩) SN cs, .slice (some ⟨go, 0, none⟩) ON co, .int .i64 cap, .int .i64 fuse, .bool false]] W fun e w' => e = .returned (.tuple #[.agg #[.slice (some ⟨gs, 0, none⟩) SN cs, .slice (some ⟨go, 0, none⟩) ON co, .int .i64 cap, .int .i64 fz, .bool false], .bool true]) ∧ Below W.heap.size W w') := fun W => (HB.out (some ⟨gs, 0, none⟩) SN cs (some ⟨go, 0, none⟩) ON co cap fuse false W hfu hfu').mono fun e w' ⟨h1, h2⟩ => ⟨by rw [h1, hfz]; simp [hz], h2⟩
      have hbo : Dsk.burn ⟨safe, ops, cap, fuse, false⟩ = ⟨safe, ops, cap, fz, false⟩ := by rw [Dsk.burn_eq, hfz]
      have hokz : Hid (Dsk.Ok ⟨safe, ops, cap, fz, false⟩) := by
        have h5 := hdO.out
        exact ⟨h5.srt, h5.wt, by show -1 ≤ fz; rw [hfz]; split <;> omega, by show fz ≤ _; rw [hfz]; split <;> omega⟩
      have hfin : Hid (∀ W, DAt W (.agg #[.slice (some ⟨gs, 0, none⟩) SN cs, .slice (some ⟨go, 0, none⟩) ON co, .int .i64 cap, .int .i64 fuse, .bool false]) d0 → DAt W (.agg #[.slice (some ⟨gs, 0, none⟩) SN cs, .slice (some ⟨go, 0, none⟩) ON co, .int .i64 cap, .int .i64 fz, .bool false]) ⟨safe, ops, cap, fz, false⟩) := fun W h => by
        rw [hd0.out] at h
        obtain ⟨e1, e2, _, _, _, h6, h7, h8, h9⟩ := h.look
        rw [e1, e2]
        exact ⟨some ⟨gs, 0, none⟩, cs, some ⟨go, 0, none⟩, co, rfl, h6, h7, h8, h9⟩
      have hON : Hid (∀ W, DAt W (.agg #[.slice (some ⟨gs, 0, none⟩) SN cs, .slice (some ⟨go, 0, none⟩) ON co, .int .i64 cap, .int .i64 fuse, .bool false]) d0 → ON = ops.length) := fun W h => by
        rw [hd0.out] at h
        exact h.look.2.1
      replace hON := hON.out _ hD3
      rw [hbo] at hsy
      have hst : Dsk.settle ⟨safe, ops, cap, fz, false⟩ ON = ⟨Dsk.behind safe ops, [], cap, fz, false⟩ := by
        unfold Dsk.settle
        rw [hON, List.take_length]
      rw [hst] at hsy
      have hch' := hsy.out
      subst hch'
      have hfl : Hid (Dsk.files ⟨safe, ops, cap, fz, false⟩ = Dsk.behind safe ops) := rfl
      have kR3' := Rg.hid kR3
      have hD3' := Rg.hid hD3
      have hb3' := Rg.hid hb3
      replace hON := Rg.hid hON
      clear kB3 kR3 hD3 hb3 HB hdO hd0 hsy hfu hfu' hbo hst hfz
      go_upto_region 7 with (go_at_call 56; refine (HB'.out _).mono ?_; rintro e w4 ⟨rfl, b4⟩)
      have kE5 : Rg.Bk w4.heap.size [.slice (some ⟨gs, 0, none⟩) SN cs, .slice (some ⟨go, 0, none⟩) ON co, .int .i64 cap, .int .i64 fz, .bool false] 28 (w4.alloc (.cells #[.slice (some ⟨gs, 0, none⟩) SN cs, .slice (some ⟨go, 0, none⟩) ON co, .int .i64 cap, .int .i64 fz, .bool false] 28)) := Rg.Bk.new rfl
      have kR5 := (kR3'.out.below b4 kR3'.out.lt).old (.cells #[.slice (some ⟨gs, 0, none⟩) SN cs, .slice (some ⟨go, 0, none⟩) ON co, .int .i64 cap, .int .i64 fz, .bool false] 28)
      have b5 := Rg.chain b4 (Rg.al1 w4 (.cells #[.slice (some ⟨gs, 0, none⟩) SN cs, .slice (some ⟨go, 0, none⟩) ON co, .int .i64 cap, .int .i64 fz, .bool false] 28))
      have hD5 := hD3'.out.below b5
      have hb5 := Rg.chain hb3'.out b5
      have hEw : w.heap.size ≤ w4.heap.size := Nat.le_trans hb3'.out.size b4.size
      have hER : w4.heap.size ≠ R := fun h => by have := (kR3'.out.below b4 kR3'.out.lt).lt; omega
      clear b4 b5 kR3' hD3' hb3' HB' z0 z1 z2 z3 z4
      generalize World.alloc _ _ = w5 at *
      generalize w4.heap.size = E at *
      replace hD5 := hfin.out _ hD5
      have HF' : Hid (∀ W, Below w5.heap.size w5 W → Calls Try.prog 20 #[.agg #[.slice (some ⟨gs, 0, none⟩) SN cs, .slice (some ⟨go, 0, none⟩) ON co, .int .i64 cap, .int .i64 fz, .bool false]] W fun e w' => ∃ a FN c, e = .returned (.slice a FN c) ∧ Hid (FN = (Dsk.behind safe ops).length ∧ fileE.Row w' a (Dsk.behind safe ops) ∧ (Dsk.behind safe ops).length ≤ c) ∧ Below W.heap.size W w') := fun W hW => (HF.out _ ⟨safe, ops, cap, fz, false⟩ W hokz.out (hD5.below hW)).mono fun e w' ⟨a, c, h1, h2, h3, h4⟩ => by
        rw [hfl.out] at h1 h2 h3
        exact ⟨a, _, c, h1, ⟨rfl, h2, h3⟩, h4⟩
      have z0 : w5.cell? ⟨E, 0, none⟩ = some (.slice (some ⟨gs, 0, none⟩) SN cs) := kE5.cell 0
      have z1 : w5.cell? ⟨E, 1, none⟩ = some (.slice (some ⟨go, 0, none⟩) ON co) := kE5.cell 1
      have z2 : w5.cell? ⟨E, 2, none⟩ = some (.int .i64 cap) := kE5.cell 2
      have z3 : w5.cell? ⟨E, 3, none⟩ = some (.int .i64 fz) := kE5.cell 3
      have z4 : w5.cell? ⟨E, 4, none⟩ = some (.bool false) := kE5.cell 4
      have kE5' := Rg.hid kE5
      have kR5' := Rg.hid kR5
      have hb5' := Rg.hid hb5
      have ef := kE5.thaw
      clear kE5 kR5 hb5 hD5 HF hfin
      go_upto_region 8 with (go_at_call 20; refine (HF'.out _ (Below.refl _ _)).mono ?_; rintro e w6 ⟨fa, FN, fc, rfl, hrow6, b6⟩; have kE6 := kE5'.out.below b6 kE5'.out.lt; have y0 := kE6.cell 0; have y1 := kE6.cell 1; have y2 := kE6.cell 2; have y3 := kE6.cell 3; have y4 := kE6.cell 4; simp only [List.getElem?_cons_zero, List.getElem?_cons_succ] at y0 y1 y2 y3 y4; have yf := kE6.thaw)
      have hD6 : DAt w6 (.agg #[.slice fa FN fc, .slice none 0 0, .int .i64 cap, .int .i64 fz, .bool false]) ⟨Dsk.behind safe ops, [], cap, fz, false⟩ := by
        obtain ⟨e1, e2, e3⟩ := hrow6.out
        rw [e1]
        exact ⟨fa, fc, none, 0, rfl, e2, .inl ⟨rfl, rfl⟩, e3, Nat.zero_le _⟩
      have kR6 := kR5'.out.below b6 kR5'.out.lt
      have hb6 := Rg.chain hb5'.out b6
      have kE7 : Rg.Bk E [.slice fa FN fc, .slice (some ⟨go, 0, none⟩) ON co, .int .i64 cap, .int .i64 fz, .bool false] 28 (w6.setCell ⟨E, 0, none⟩ (.slice fa FN fc)) := kE6.set 0 (.slice fa FN fc)
      have o7 := Rg.Only.setCell w6 E 0 (.slice fa FN fc)
      have kR7 := kR6.same (o7.block R (Ne.symm hER))
      have hD7 := hD6.only kE6 plainD o7
      have hb7 := hb6.trans (o7.bel hEw)
      clear y0 y1 y2 y3 y4 yf z0 z1 z2 z3 z4 kE6 kR6 hD6 hb6 o7 hrow6 b6 kE5' kR5' hb5' ef HF'
      generalize World.setCell _ _ _ = w7 at *
      have z1 : w7.cell? ⟨E, 1, none⟩ = some (.slice (some ⟨go, 0, none⟩) ON co) := kE7.cell 1
      have zf := kE7.thaw
      have kE8 : Rg.Bk E [.slice fa FN fc, .slice none 0 0, .int .i64 cap, .int .i64 fz, .bool false] 28 (w7.setCell ⟨E, 1, none⟩ (.slice none 0 0)) := kE7.set 1 (.slice none 0 0)
      have o8 := Rg.Only.setCell w7 E 1 (.slice none 0 0)
      have kR8 := Rg.hid (kR7.same (o8.block R (Ne.symm hER)))
      have hD8 := Rg.hid (hD7.only kE7 plainD o8)
      have hb8 := Rg.hid (hb7.trans (o8.bel hEw))
      replace kE8 := Rg.hid kE8
      clear o8 hD7 hb7 kR7 kE7
      go_upto_region 9 with fail
      replace kE8 := kE8.out
      replace kR8 := kR8.out
      replace hD8 := hD8.out
      replace hb8 := hb8.out
      clear z1 zf
      generalize World.setCell _ _ _ = w8 at *
      obtain ⟨kE, oE⟩ := Rg.ret5 kR8 rfl (.slice fa FN fc) (.slice none 0 0) (.int .i64 cap) (.int .i64 fz) (.bool false)
      have hDE := hD8.only kR8 plainZ oE
      have post := Rg.hid (⟨_, rfl, hDE, hb8.trans (oE.bel hRw)⟩ : DPost w (_, 0) (.returned _) _)
      replace kE := Rg.hid kE
      have d0' : w8.cell? ⟨E, 0, none⟩ = some (.slice fa FN fc) := kE8.cell 0
      have d1' : w8.cell? ⟨E, 1, none⟩ = some (.slice none 0 0) := kE8.cell 1
      have d2' : w8.cell? ⟨E, 2, none⟩ = some (.int .i64 cap) := kE8.cell 2
      have d3' : w8.cell? ⟨E, 3, none⟩ = some (.int .i64 fz) := kE8.cell 3
      have d4' : w8.cell? ⟨E, 4, none⟩ = some (.bool false) := kE8.cell 4
      have r0 : w8.cell? ⟨R, 0, none⟩ = some (.slice none 0 0) := kR8.cell 0
      have r1 : w8.cell? ⟨R, 1, none⟩ = some (.slice none 0 0) := kR8.cell 1
      have r2 : w8.cell? ⟨R, 2, none⟩ = some (.int .i64 0) := kR8.cell 2
      have r3 : w8.cell? ⟨R, 3, none⟩ = some (.int .i64 0) := kR8.cell 3
      have r4 : w8.cell? ⟨R, 4, none⟩ = some (.bool false) := kR8.cell 4
      have rf := kR8.thaw
      clear oE kR8 hDE hD8 kE8
      go_wp2
      replace kE := kE.out
      replace post := post.out
      generalize World.setCell _ _ _ = WE at *
      exact bodyPost_ret (v := .tuple #[.agg #[.slice fa FN fc, .slice none 0 0, .int .i64 cap, .int .i64 fz, .bool false], .int .i64 0]) (by simp [results, Try.results35, go_sem, kE.cell]) rfl post
end Go.Proofs.Ytempiajepomajaa
