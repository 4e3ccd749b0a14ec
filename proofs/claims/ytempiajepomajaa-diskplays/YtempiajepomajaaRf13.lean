/-
  Layer 6: the document's disk: Crash.
-/
import Derived.Test.YtempiajepomajaaRf12
namespace Go.Proofs.Ytempiajepomajaa
open Go.RowKit

set_option maxHeartbeats 2000000 in
set_option maxRecDepth 100000 in
theorem rcrash_any (v : Value) (d : Dsk.Dk) (n : Int) (w : World) (hd : Dsk.Ok d) (h : DAt w v d) :
    Calls Try.prog 38 #[v, .int .i64 n] w fun e w' => NotePost w (Dsk.crash d n) e w' := by
  have HO : Hid (∀ W, Below w.heap.size w W → Calls Try.prog 52 #[v] W fun e w' => ∃ gs cs go co, e = .returned (.agg #[.slice (some ⟨gs, 0, none⟩) d.safe.length cs, .slice (some ⟨go, 0, none⟩) d.ops.length co, .int .i64 d.cap, .int .i64 d.fuse, .bool d.down]) ∧ DAt w' (.agg #[.slice (some ⟨gs, 0, none⟩) d.safe.length cs, .slice (some ⟨go, 0, none⟩) d.ops.length co, .int .i64 d.cap, .int .i64 d.fuse, .bool d.down]) d ∧ Below W.heap.size W w') := fun W hW => (rown_any v d W hd (h.below hW)).mono fun e w' ⟨gs, cs, go, co, rest, h1, h2, h3, h4, h5⟩ => ⟨gs, cs, go, co, h1, ⟨some ⟨gs, 0, none⟩, cs, some ⟨go, 0, none⟩, co, rfl, h2, h4.toRow, h3, h4.le⟩, h5⟩
  have hdO := Rg.hid hd
  have hcr : Hid (Dsk.crash d n = ⟨Dsk.behind d.safe (d.ops.take (Dsk.keep n d.ops.length)), [], d.cap, -1, true⟩) := rfl
  have hkl := Dsk.keep_le n d.ops.length
  have hKb : Dsk.keep n d.ops.length ≤ 1000000000 := Nat.le_trans hkl hd.ops
  have hke : max 0 (min n (d.ops.length : Int)) = (Dsk.keep n d.ops.length : Int) := by unfold Dsk.keep; omega
  have hnn : Hid (d.ops.length = d.ops.length) := rfl
  obtain ⟨sa, sc, oa, oc, rfl, hS, hO, hsc, hoc⟩ := h
  generalize Dsk.crash d n = r at *
  obtain ⟨safe, ops, cap, fuse, down⟩ := d
  unfold dval at *
  dsimp only at *
  generalize Dsk.keep n ops.length = K at *
  obtain ⟨ON0, hON0⟩ : ∃ ON0, ON0 = ops.length := ⟨_, rfl⟩
  have hKo : Hid (K ≤ ops.length) := hkl
  obtain ⟨d0, hd0⟩ : ∃ d0 : Dsk.Dk, d0 = ⟨safe, ops, cap, fuse, down⟩ := ⟨_, rfl⟩
  rw [← hd0] at HO
  replace hd0 := Rg.hid hd0
  generalize safe.length = SN at *
  generalize ops.length = ON at *
  clear hS hO hd hsc hoc
  have kB1 : Rg.Bk w.heap.size [.slice sa SN sc, .slice oa ON oc, .int .i64 cap, .int .i64 fuse, .bool down] 28 ((w.alloc (.cells #[.slice sa SN sc, .slice oa ON oc, .int .i64 cap, .int .i64 fuse, .bool down] 28)).alloc (.cells #[.slice none 0 0, .slice none 0 0, .int .i64 0, .int .i64 0, .bool false] 28)) := (Rg.Bk.new rfl).old _
  have kR1 : Rg.Bk (w.heap.size + 1) [.slice none 0 0, .slice none 0 0, .int .i64 0, .int .i64 0, .bool false] 28 ((w.alloc (.cells #[.slice sa SN sc, .slice oa ON oc, .int .i64 cap, .int .i64 fuse, .bool down] 28)).alloc (.cells #[.slice none 0 0, .slice none 0 0, .int .i64 0, .int .i64 0, .bool false] 28)) := Rg.Bk.new (by simp)
  have hb1 := Rg.al2 w (.cells #[.slice sa SN sc, .slice oa ON oc, .int .i64 cap, .int .i64 fuse, .bool down] 28) (.cells #[.slice none 0 0, .slice none 0 0, .int .i64 0, .int .i64 0, .bool false] 28)
  go_enter Try.func38, Try.ntmps38
  go_upto_region 1 with fail
  generalize World.alloc _ _ = w1 at *
  obtain ⟨B, hB⟩ : ∃ B, B = w.heap.size := ⟨_, rfl⟩
  obtain ⟨R, hR⟩ : ∃ R, R = w.heap.size + 1 := ⟨_, rfl⟩
  rw [← hR] at kR1 ⊢
  rw [← hB] at kB1 ⊢
  have hBR : B ≠ R := by omega
  have hBw : w.heap.size ≤ B := by omega
  have hRw : w.heap.size ≤ R := by omega
  clear hB hR
  have c0 : w1.cell? ⟨B, 0, none⟩ = some (.slice sa SN sc) := kB1.cell 0
  have c1 : w1.cell? ⟨B, 1, none⟩ = some (.slice oa ON oc) := kB1.cell 1
  have c2 : w1.cell? ⟨B, 2, none⟩ = some (.int .i64 cap) := kB1.cell 2
  have c3 : w1.cell? ⟨B, 3, none⟩ = some (.int .i64 fuse) := kB1.cell 3
  have c4 : w1.cell? ⟨B, 4, none⟩ = some (.bool down) := kB1.cell 4
  have kB1' := Rg.hid kB1
  have kR1' := Rg.hid kR1
  clear kB1 kR1
  go_upto_region 2 with (go_at_call 52; refine (HO.out _ hb1).mono ?_; rintro e w2 ⟨gs, cs, go, co, rfl, hD2, b2⟩; have kB2 := kB1'.out.below b2 kB1'.out.lt; have y0 := kB2.cell 0; have y1 := kB2.cell 1; have y2 := kB2.cell 2; have y3 := kB2.cell 3; have y4 := kB2.cell 4; simp only [List.getElem?_cons_zero, List.getElem?_cons_succ] at y0 y1 y2 y3 y4; have yf := kB2.thaw)
  have kR2 := kR1'.out.below b2 kR1'.out.lt
  have hb2 := Rg.chain hb1 b2
  obtain ⟨kB3, oB⟩ := Rg.ret5 kB2 rfl (.slice (some ⟨gs, 0, none⟩) SN cs) (.slice (some ⟨go, 0, none⟩) ON co) (.int .i64 cap) (.int .i64 fuse) (.bool down)
  have kR3 := kR2.same (oB.block R (Ne.symm hBR))
  have hD3 := hD2.only kB2 plainD oB
  have hb3 := hb2.trans (oB.bel hBw)
  clear y0 y1 y2 y3 y4 yf kB2 kR2 oB hD2 b2 hb2 HO c0 c1 c2 c3 c4 kB1' kR1' hb1
  generalize World.setCell _ _ _ = w3 at *
  have hD3' : DAt w3 (.agg #[.slice (some ⟨gs, 0, none⟩) SN cs, .slice (some ⟨go, 0, none⟩) ON co, .int .i64 cap, .int .i64 fuse, .bool down]) ⟨safe, ops, cap, fuse, down⟩ := by rw [← hd0.out]; exact hD3
  have hlk := hD3'.look
  have hSNl : Hid (SN = safe.length) := hlk.1
  have hco : K ≤ co := by have := hlk.2.2.2.2.2.2.2.2; have := hKo.out; omega
  have hco' : (K : Int) ≤ (co : Int) := by omega
  have hK0 : (0 : Int) ≤ (K : Int) := by omega
  have hKi : (K : Int) ≤ (ON : Int) := by omega
  clear hlk hD3
  have z0 : w3.cell? ⟨B, 0, none⟩ = some (.slice (some ⟨gs, 0, none⟩) SN cs) := kB3.cell 0
  have z1 : w3.cell? ⟨B, 1, none⟩ = some (.slice (some ⟨go, 0, none⟩) ON co) := kB3.cell 1
  have hD3 := Rg.hid hD3'
  replace kB3 := Rg.hid kB3
  replace kR3 := Rg.hid kR3
  replace hb3 := Rg.hid hb3
  clear hD3' hON0
  go_upto_region 4 with fail
  clear z0 z1 hke
  go_wp2
  go_loopw [20] (fun vi wr => ∃ (i g c LN : Nat), i ≤ K ∧ vi = .int .i64 i ∧ Hid (Rg.Bk B [.slice (some ⟨g, 0, none⟩) LN c, .slice (some ⟨go, 0, none⟩) ON co, .int .i64 cap, .int .i64 fuse, .bool down] 28 wr) ∧ Hid (Rg.Bk R [.slice none 0 0, .slice none 0 0, .int .i64 0, .int .i64 0, .bool false] 28 wr) ∧ Hid (DAt wr (.agg #[.slice (some ⟨g, 0, none⟩) LN c, .slice (some ⟨go, 0, none⟩) ON co, .int .i64 cap, .int .i64 fuse, .bool down]) ⟨Dsk.behind safe (ops.take i), ops, cap, fuse, down⟩) ∧ Hid (Below w.heap.size w wr)) (fun vi _ => K - (intOf vi).toNat)
  case atStart => exact ⟨0, gs, cs, SN, Nat.zero_le _, rfl, kB3, kR3, hD3, hb3⟩
  case round =>
    obtain ⟨i, g, c, LN, hin, rfl, kB, kR, hD, hb⟩ := hrel
    clear kB3 kR3 hD3 hb3
    by_cases hlt : i < K
    · obtain ⟨e1, e2, _, _, _, h6, h7, h8, h9⟩ := hD.out.look
      dsimp only at e1 e2 h6 h7 h8 h9
      have hil : i < ops.length := by omega
      obtain ⟨hgo, hat⟩ := h7.some
      have at1 : Rg.At wr go (0 + i * 4) (opE.enc ops[i]) := hat.elem hil
      rw [Nat.zero_add] at at1
      have hnx := Dsk.behind_take safe ops i hil
      have hwi := Dsk.wt_take ops i hil
      have hub := Dsk.used_behind safe (ops.take i)
      have hlu := Dsk.len_used (Dsk.behind safe (ops.take i))
      have hwt' := hdO.out.wt
      dsimp only at hwt'
      generalize ops[i] = op at *
      obtain ⟨L', hL'⟩ : ∃ L', L' = Dsk.behind safe (ops.take (i + 1)) := ⟨_, rfl⟩
      rw [← hL'] at hnx
      replace hL' := Rg.hid hL'
      obtain ⟨L, hLd⟩ : ∃ L, L = Dsk.behind safe (ops.take i) := ⟨_, rfl⟩
      rw [← hLd] at hD e1 h6 h8 hnx hub hlu
      clear hLd
      obtain ⟨ok, on, ot, od⟩ := op
      obtain ⟨c0, c1, c2, c3⟩ := op_at at1
      dsimp only at hwi
      have hL1 : L.length ≤ 1000000000 := by omega
      have hL2 : Dsk.used L + od.size ≤ 1000000000000 := by omega
      have HAf : Hid (∀ W, Below wr.heap.size wr W → Calls Try.prog 46 #[.slice (some ⟨g, 0, none⟩) LN c, .agg #[.int .i64 ok, .string on, .string ot, .string od]] W fun e w' => RPost W L' e w') := fun W hW => by
        have := rafter_any g c L ok on ot od W hL1 hL2 h8 (h6.below hW)
        rw [← e1, ← hnx] at this; exact this
      have hz0 : (0 : Int) ≤ (i : Int) := by omega
      have hz1 : (i : Int) < (K : Int) := by omega
      have y0 : wr.cell? ⟨B, 0, none⟩ = some (.slice (some ⟨g, 0, none⟩) LN c) := kB.out.cell 0
      have hBl := kB.out.lt
      have hRO : Hid (opE.Row wr (some ⟨go, 0, none⟩) ops) := h7
      have hOO : Hid (ON = ops.length) := e2
      have hoo : Hid (ops.length ≤ co) := h9
      clear at1 hat hil hwi hub hlu hwt' hL1 hL2 hnx h6 h7 h8 h9 e1 e2 hD
      go_upto_region 6 with fail
      have b6 := Rg.al1 wr (.cells #[.int .i64 ok, .string on, .string ot, .string od] 56)
      have kO6 : Rg.Bk wr.heap.size [.int .i64 ok, .string on, .string ot, .string od] 56 (wr.alloc (.cells #[.int .i64 ok, .string on, .string ot, .string od] 56)) := Rg.Bk.new rfl
      have kB6 := kB.out.below b6 hBl
      have kR6 := kR.out.below b6 kR.out.lt
      have hRO6 := hRO.out.below b6
      have hb6 := Rg.chain hb.out b6
      have b6' := Rg.hid b6
      generalize World.alloc _ _ = w6 at *
      have o0 : w6.cell? ⟨wr.heap.size, 0, none⟩ = some (.int .i64 ok) := kO6.cell 0
      have o1 : w6.cell? ⟨wr.heap.size, 1, none⟩ = some (.string on) := kO6.cell 1
      have o2 : w6.cell? ⟨wr.heap.size, 2, none⟩ = some (.string ot) := kO6.cell 2
      have o3 : w6.cell? ⟨wr.heap.size, 3, none⟩ = some (.string od) := kO6.cell 3
      have y6 : w6.cell? ⟨B, 0, none⟩ = some (.slice (some ⟨g, 0, none⟩) LN c) := kB6.cell 0
      have kB6' := Rg.hid kB6
      replace kR6 := Rg.hid kR6
      replace hRO6 := Rg.hid hRO6
      replace hb6 := Rg.hid hb6
      clear kO6 kB6 b6 c0 c1 c2 c3 y0 hBl hRO kB kR hb
      go_upto_region 7 with (go_at_call 46; refine (HAf.out _ b6'.out).mono ?_; rintro e w7 ⟨g7, cap7, rfl, r7, c7, b7⟩; have kB7 := kB6'.out.below b7 kB6'.out.lt; have x0 := kB7.cell 0; simp only [List.getElem?_cons_zero] at x0; have xf := kB7.thaw)
      have hRO7 := hRO6.out.below b7
      have kR7 := kR6.out.below b7 kR6.out.lt
      have hb7 := Rg.chain hb6.out b7
      obtain ⟨M7, hM7⟩ : ∃ M7, M7 = L'.length := ⟨_, rfl⟩
      rw [← hM7] at c7 ⊢
      have hD7 : DAt w7 (.agg #[.slice (some ⟨g7, 0, none⟩) M7 cap7, .slice (some ⟨go, 0, none⟩) ON co, .int .i64 cap, .int .i64 fuse, .bool down]) ⟨L', ops, cap, fuse, down⟩ := by
        rw [hM7, hOO.out]
        exact ⟨some ⟨g7, 0, none⟩, cap7, some ⟨go, 0, none⟩, co, rfl, r7, hRO7, by rw [← hM7]; exact c7, hoo.out⟩
      have kB8 : Rg.Bk B [.slice (some ⟨g7, 0, none⟩) M7 cap7, .slice (some ⟨go, 0, none⟩) ON co, .int .i64 cap, .int .i64 fuse, .bool down] 28 (w7.setCell ⟨B, 0, none⟩ (.slice (some ⟨g7, 0, none⟩) M7 cap7)) := kB7.set 0 (.slice (some ⟨g7, 0, none⟩) M7 cap7)
      have o8 := Rg.Only.setCell w7 B 0 (.slice (some ⟨g7, 0, none⟩) M7 cap7)
      have kR8 := kR7.same (o8.block R (Ne.symm hBR))
      have hD8 := hD7.only kB7 plainD o8
      have hb8 := hb7.trans (o8.bel hBw)
      replace kB8 := Rg.hid kB8
      replace kR8 := Rg.hid kR8
      rw [hL'.out] at hD8
      replace hD8 := Rg.hid hD8
      replace hb8 := Rg.hid hb8
      clear kB7 kR7 hD7 hb7 o8 x0 xf r7 b7 hRO7 hM7 o0 o1 o2 o3 y6 kB6' kR6 hRO6 hb6 b6' HAf c7
      generalize World.setCell _ _ _ = w8 at *
      go_wp2
      go_roundw
      case rel => exact ⟨i + 1, g7, cap7, M7, by omega, by go_num, kB8, kR8, hD8, hb8⟩
      case measure => simp [intOf]; omega
    · obtain rfl : i = K := by omega
      have hch := hcr.out
      subst hch
      clear hdO hd0 hKo hkl hSNl hlt hin
      have kB3 := kB.out
      have kR3 := kR.out
      have hb3 := hb.out
      have hD3 : DAt wr (.agg #[.slice (some ⟨g, 0, none⟩) LN c, .slice none 0 0, .int .i64 cap, .int .i64 (-1), .bool true]) ⟨Dsk.behind safe (ops.take i), [], cap, -1, true⟩ := by
        obtain ⟨e1, e2, _, _, _, h6, h7, h8, h9⟩ := hD.out.look
        dsimp only at e1 h6 h8
        rw [e1]
        exact ⟨some ⟨g, 0, none⟩, c, none, 0, rfl, h6, .inl ⟨rfl, rfl⟩, h8, Nat.zero_le _⟩
      clear kB kR hb hD
      obtain ⟨w3, hw3⟩ : ∃ w3, w3 = wr := ⟨_, rfl⟩
      subst hw3
      go_upto_region 8 with fail
      have z : w3.cell? ⟨B, 1, none⟩ = some (.slice (some ⟨go, 0, none⟩) ON co) := kB3.cell 1
      have zf := kB3.thaw
      have kB4 : Rg.Bk B [.slice (some ⟨g, 0, none⟩) LN c, .slice none 0 0, .int .i64 cap, .int .i64 fuse, .bool down] 28 (w3.setCell ⟨B, 1, none⟩ (.slice none 0 0)) := kB3.set 1 (.slice none 0 0)
      have o4 := Rg.Only.setCell w3 B 1 (.slice none 0 0)
      have kR4 := Rg.hid (kR3.same (o4.block R (Ne.symm hBR)))
      have hD4 := Rg.hid (hD3.only kB3 plainD o4)
      have hb4 := Rg.hid (hb3.trans (o4.bel hBw))
      replace kB4 := Rg.hid kB4
      clear o4 hD3 hb3 kR3 kB3
      go_upto_region 9 with fail
      replace kB4 := kB4.out
      replace kR4 := kR4.out
      replace hD4 := hD4.out
      replace hb4 := hb4.out
      clear z zf
      generalize World.setCell _ _ _ = w4 at *
      have z : w4.cell? ⟨B, 3, none⟩ = some (.int .i64 fuse) := kB4.cell 3
      have zf := kB4.thaw
      have kB5 : Rg.Bk B [.slice (some ⟨g, 0, none⟩) LN c, .slice none 0 0, .int .i64 cap, .int .i64 (-1), .bool down] 28 (w4.setCell ⟨B, 3, none⟩ (.int .i64 (-1))) := kB4.set 3 (.int .i64 (-1))
      have o5 := Rg.Only.setCell w4 B 3 (.int .i64 (-1))
      have kR5 := Rg.hid (kR4.same (o5.block R (Ne.symm hBR)))
      have hD5 := Rg.hid (hD4.only kB4 plainD o5)
      have hb5 := Rg.hid (hb4.trans (o5.bel hBw))
      replace kB5 := Rg.hid kB5
      clear o5 hD4 hb4 kR4 kB4
      go_upto_region 10 with fail
      replace kB5 := kB5.out
      replace kR5 := kR5.out
      replace hD5 := hD5.out
      replace hb5 := hb5.out
      clear z zf
      generalize World.setCell _ _ _ = w5 at *
      have z : w5.cell? ⟨B, 4, none⟩ = some (.bool down) := kB5.cell 4
      have zf := kB5.thaw
      have kB6 : Rg.Bk B [.slice (some ⟨g, 0, none⟩) LN c, .slice none 0 0, .int .i64 cap, .int .i64 (-1), .bool true] 28 (w5.setCell ⟨B, 4, none⟩ (.bool true)) := kB5.set 4 (.bool true)
      have o6 := Rg.Only.setCell w5 B 4 (.bool true)
      have kR6 := Rg.hid (kR5.same (o6.block R (Ne.symm hBR)))
      have hD6 := Rg.hid (hD5.only kB5 plainD o6)
      have hb6 := Rg.hid (hb5.trans (o6.bel hBw))
      replace kB6 := Rg.hid kB6
      clear o6 hD5 hb5 kR5 kB5
      go_upto_region 11 with fail
      replace kB6 := kB6.out
      replace kR6 := kR6.out
      replace hD6 := hD6.out
      replace hb6 := hb6.out
      clear z zf
      generalize World.setCell _ _ _ = w6 at *
      obtain ⟨kE, oE⟩ := Rg.ret5 kR6 rfl (.slice (some ⟨g, 0, none⟩) LN c) (.slice none 0 0) (.int .i64 cap) (.int .i64 (-1)) (.bool true)
      have hDE := hD6.only kR6 plainZ oE
      have post := Rg.hid (⟨_, rfl, hDE, hb6.trans (oE.bel hRw)⟩ : NotePost w _ (.returned _) _)
      replace kE := Rg.hid kE
      have d0' : w6.cell? ⟨B, 0, none⟩ = some (.slice (some ⟨g, 0, none⟩) LN c) := kB6.cell 0
      have d1' : w6.cell? ⟨B, 1, none⟩ = some (.slice none 0 0) := kB6.cell 1
      have d2' : w6.cell? ⟨B, 2, none⟩ = some (.int .i64 cap) := kB6.cell 2
      have d3' : w6.cell? ⟨B, 3, none⟩ = some (.int .i64 (-1)) := kB6.cell 3
      have d4' : w6.cell? ⟨B, 4, none⟩ = some (.bool true) := kB6.cell 4
      have r0 : w6.cell? ⟨R, 0, none⟩ = some (.slice none 0 0) := kR6.cell 0
      have r1 : w6.cell? ⟨R, 1, none⟩ = some (.slice none 0 0) := kR6.cell 1
      have r2 : w6.cell? ⟨R, 2, none⟩ = some (.int .i64 0) := kR6.cell 2
      have r3 : w6.cell? ⟨R, 3, none⟩ = some (.int .i64 0) := kR6.cell 3
      have r4 : w6.cell? ⟨R, 4, none⟩ = some (.bool false) := kR6.cell 4
      have rf := kR6.thaw
      clear oE kR6 hDE hD6 kB6
      go_wp2
      replace kE := kE.out
      replace post := post.out
      generalize World.setCell _ _ _ = WE at *
      exact bodyPost_ret (v := .agg #[.slice (some ⟨g, 0, none⟩) LN c, .slice none 0 0, .int .i64 cap, .int .i64 (-1), .bool true]) (by simp [results, Try.results38, go_sem, kE.cell]) rfl post
end Go.Proofs.Ytempiajepomajaa
