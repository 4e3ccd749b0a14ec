/-
  Layer 8: the document's 'own': a chat with lists of its own.
-/
import Derived.Test.YteepfifglafjmaaDoorCq2
namespace Go.Proofs.YteepfifglafjmaaDoor
open Go.RowKit

/-- a step that is only read -/
structure LSt (W : World) (v : SV) (x : Ch.St) : Prop where
  n : v.n = x.wants.length
  wants : Row0 strE W v.a x.wants
  m : v.m = x.nudge.length
  nudge : Row0 strE W v.b x.nudge
  s : v.s = x.send
theorem LSt.below {W W' : World} {v : SV} {x : Ch.St} (h : LSt W v x) (hb : Below W.heap.size W W') : LSt W' v x := ⟨h.n, h.wants.below hb, h.m, h.nudge.below hb, h.s⟩
def LSts (W : World) (vs : List SV) (xs : List Ch.St) : Prop := vs.length = xs.length ∧ ∀ (i : Nat) (h1 : i < vs.length) (h2 : i < xs.length), LSt W vs[i] xs[i]
theorem LSts.below {W W' : World} {vs : List SV} {xs : List Ch.St} (h : LSts W vs xs) (hb : Below W.heap.size W W') : LSts W' vs xs := ⟨h.1, fun i h1 h2 => (h.2 i h1 h2).below hb⟩
theorem ISts.ls {W : World} {vs : List SV} {xs : List Ch.St} (h : ISts W vs xs) : LSts W vs xs := ⟨h.1, fun i h1 h2 => have q := h.2 i h1 h2; ⟨q.n, q.wants, q.m, q.nudge, q.s⟩⟩
theorem StsAt.ls {W : World} {vs : List SV} {xs : List Ch.St} (h : StsAt W vs xs) : LSts W vs xs := ⟨h.len, fun i h1 h2 => have q := h.get i h1 h2; ⟨q.n, .inr q.wants.1, q.m, .inr q.nudge.1, q.s⟩⟩

theorem app_nilC {P : Program} {t e ty : TypeId} {i : TypeInfo} (ht : P.underlying t = some (.slice e)) (hi : P.info? e = some i) (g n cap : Nat) (hle : n ≤ cap) (a : Option Addr) (c : Nat) (W : World) :
    (Builtin.append_ #[t, t] ty #[.slice (some ⟨g, 0, none⟩) n cap, .slice a 0 c]).run P W = .ok (.slice (some ⟨g, 0, none⟩) n cap) W := by
  cases a <;> simp [Builtin.append_, run_underlying ht, sizeOf, typeInfo, hi, Builtin.lenOf, Builtin.firstCells, storeCells, loadCells, loadCellsFrom, hle]
theorem own_nilC (W : World) : strE.Own W.heap.size (W.alloc (.cells #[] 9)) W.heap.size 0 [] [] := ⟨(MapKept.heap_alloc W _).1, Nat.le_refl _, Nat.le_refl _, Nat.zero_le _, by simp⟩
/-- append([]string{}, l...) -/
theorem app_texts (a : Option Addr) (c : Nat) (l : List ByteArray) (N : Nat) (hN : N = l.length) (W : World) (hr : Row0 strE W a l) (hl : l.length ≤ 1000000) :
    ∃ g c' W', (Builtin.append_ #[28, 28] 28 #[.slice (some ⟨W.heap.size, 0, none⟩) 0 0, .slice a N c]).run Tryd.prog (W.alloc (.cells #[] 9)) = .ok (.slice (some ⟨g, 0, none⟩) N c') W' ∧ Rg.Tow strE W' (some ⟨g, 0, none⟩) l ∧ N ≤ c' ∧ Below W.heap.size W W' := by
  subst hN
  obtain ⟨i0, hi, hz0, hz1, hz2⟩ := infoStr'
  have b0 : Below W.heap.size W (W.alloc (.cells #[] 9)) := Rg.al1 _ _
  by_cases h0 : 0 < l.length
  · obtain ⟨g', cap', rest', W', h1, h2, h3, _, _⟩ := (own_nilC W).appendRow (P := Tryd.prog) l 28 28 i0 _ 16 Tryd.underlying28 hi hz0 hz1 hz2 rfl a c ((hr.row h0).below b0) b0.size (by simp; omega) (by unfold maxLen; simp; omega)
    refine ⟨g', cap', W', ?_, ?_, ?_, b0.trans h3⟩
    · simpa using h1
    · have := h2.tow; simpa using this
    · have := h2.le; simpa using this
  · obtain rfl : l = [] := List.eq_nil_of_length_eq_zero (by omega)
    exact ⟨_, 0, _, app_nilC Tryd.underlying28 hi _ 0 0 (Nat.le_refl _) a c _, (own_nilC W).tow, Nat.le_refl _, b0⟩

/-- what is kept while the lists are laid anew -/
structure OAt (w : World) (B R : Nat) (cs : List Value) (a3 : Option Addr) (c3 : Nat) (ws : List SV) (ys : List Ch.St) (W : World) : Prop where
  bel : Below w.heap.size w W
  chat : Rg.Bk B cs 31 W
  res : Rg.Bk R [.slice none 0 0, .int .i64 0, .int .i64 0, .string ⟨#[]⟩, .int .i64 0, .int .i64 0, .bool false, .bool false] 31 W
  row : Rg.Sow stepE w.heap.size W a3 c3 ws
  sts : StsAt W ws ys
  low : w.heap.size ≤ B ∧ w.heap.size ≤ R ∧ B ≠ R
theorem OAt.below {w : World} {B R : Nat} {cs : List Value} {a3 : Option Addr} {c3 : Nat} {ws : List SV} {ys : List Ch.St} {W W' : World} (h : OAt w B R cs a3 c3 ws ys W) (hb : Below W.heap.size W W') : OAt w B R cs a3 c3 ws ys W' :=
  ⟨Rg.chain h.bel hb, h.chat.below hb h.chat.lt, h.res.below hb h.res.lt, h.row.below hb, h.sts.below hb, h.low⟩
theorem bk_row {w W W' : World} {a3 : Option Addr} {c3 : Nat} {ws : List SV} {b : Nat} {C : List Value} (k : Rg.Bk b C 31 W) (hr : Rg.Sow stepE w.heap.size W a3 c3 ws) (hs : ∀ k, k < W.heap.size → a3 ≠ some ⟨k, 0, none⟩ → W'.heap[k]? = W.heap[k]?) : Rg.Bk b C 31 W' :=
  k.same (hs b k.lt (fun e => by
    obtain ⟨C', k'⟩ := hr.typed b e
    unfold Rg.Bk at k k'
    rw [k] at k'
    injection k' with k'
    injection k' with _ k' _
    exact chat_step k'))
/-- one step more -/
theorem OAt.add {w : World} {B R : Nat} {cs : List Value} {a3 : Option Addr} {c3 M : Nat} {ws : List SV} {ys : List Ch.St} {W : World} (h : OAt w B R cs a3 c3 ws ys W) (hM : M = ws.length) (hl : ws.length ≤ 1000) (v : SV) (x : Ch.St) (hst : StAt W v x) (ad : Nat) (hk : Rg.Bk ad (stepE.enc v) 43 W) :
    ∃ a' c' W', (Builtin.append_ #[22, 22] 22 #[.slice a3 M c3, .slice (some ⟨ad, 0, none⟩) 1 1]).run Tryd.prog W = .ok (.slice a' (M + 1) c') W' ∧ OAt w B R cs a' c' (ws ++ [v]) (ys ++ [x]) W' := by
  subst hM
  obtain ⟨a', c', W', h1, h2, h3, h4⟩ := app_step h.row h.bel.size v ad hk (by omega)
  exact ⟨a', c', W', h1, ⟨h.bel.trans h3, bk_row h.chat h.row h4, bk_row h.res h.row h4, h2, (h.sts.add hst).stay h3.size h4 h.row.typed step_str, h.low⟩⟩
/-- behind 'own' -/
def OPost (w : World) (sn : Nat) (xs : List Ch.St) (cstep cwant : Int) (cseen : ByteArray) (cwait cpat : Int) (cover cfailed : Bool) (e : Ending) (w' : World) : Prop := ∃ sa' sc' vs', e = .returned (.agg #[.slice sa' sn sc', .int .i64 cstep, .int .i64 cwant, .string cseen, .int .i64 cwait, .int .i64 cpat, .bool cover, .bool cfailed]) ∧ Rg.Tow stepE w' sa' vs' ∧ StsAt w' vs' xs ∧ sn ≤ sc' ∧ Below w.heap.size w w'

set_option maxHeartbeats 4000000 in
set_option maxRecDepth 100000 in
theorem rown_any (sa : Option Addr) (sn sc : Nat) (vs : List SV) (xs : List Ch.St) (cstep cwant : Int) (cseen : ByteArray) (cwait cpat : Int) (cover cfailed : Bool) (w : World) (hsn : sn = xs.length) (hl : sn ≤ 1000) (hwl : ∀ x ∈ xs, x.wants.length ≤ 1000000 ∧ x.nudge.length ≤ 1000000) (hr : Row0 stepE w sa vs) (hx : LSts w vs xs) :
    Calls Tryd.prog 26 #[.agg #[.slice sa sn sc, .int .i64 cstep, .int .i64 cwant, .string cseen, .int .i64 cwait, .int .i64 cpat, .bool cover, .bool cfailed]] w fun e w' => OPost w sn xs cstep cwant cseen cwait cpat cover cfailed e w' := by
  have hO0 : Hid (OAt w w.heap.size (w.heap.size + 1) [.slice sa sn sc, .int .i64 cstep, .int .i64 cwant, .string cseen, .int .i64 cwait, .int .i64 cpat, .bool cover, .bool cfailed] none 0 [] [] ((w.alloc (.cells #[.slice sa sn sc, .int .i64 cstep, .int .i64 cwant, .string cseen, .int .i64 cwait, .int .i64 cpat, .bool cover, .bool cfailed] 31)).alloc (.cells #[.slice none 0 0, .int .i64 0, .int .i64 0, .string ⟨#[]⟩, .int .i64 0, .int .i64 0, .bool false, .bool false] 31))) :=
    ⟨(Rg.al1 _ _).alloc (Rg.al1 _ _).size _, (Rg.Bk.new rfl).old _, Rg.Bk.new (by simp), Rg.Sow.nil, trivial, by omega, by omega, by omega⟩
  replace hsn := Rg.hid hsn
  replace hwl := Rg.hid hwl
  replace hr := Rg.hid hr
  replace hx := Rg.hid hx
  go_enter Tryd.func26, Tryd.ntmps26
  go_upto_region 1 with fail
  generalize World.alloc _ _ = w1 at *
  obtain ⟨B, hB⟩ : ∃ B, B = w.heap.size := ⟨_, rfl⟩
  obtain ⟨R, hR⟩ : ∃ R, R = w.heap.size + 1 := ⟨_, rfl⟩
  rw [← hR, ← hB] at hO0
  rw [← hR]
  rw [← hB]
  clear hB hR
  have a0 : w1.cell? ⟨B, 0, none⟩ = some (.slice sa sn sc) := hO0.out.chat.cell 0
  go_wp2
  clear a0
  go_loopw [3, 9] (fun va vi wr => ∃ (i : Nat) (a3 : Option Addr) (c3 : Nat) (ws : List SV), i ≤ sn ∧ vi = .int .i64 i ∧ va = .slice a3 i c3 ∧ Hid (i = ws.length) ∧ Hid (OAt w B R [.slice sa sn sc, .int .i64 cstep, .int .i64 cwant, .string cseen, .int .i64 cwait, .int .i64 cpat, .bool cover, .bool cfailed] a3 c3 ws (xs.take i) wr)) (fun _ vi _ => sn - (intOf vi).toNat)
  case atStart => exact ⟨0, none, 0, [], Nat.zero_le _, rfl, rfl, rfl, hO0⟩
  case round =>
    clear hO0
    obtain ⟨i, a3, c3, ws, hin, rfl, rfl, hM, hO⟩ := hrel
    by_cases hlt : i < sn
    · have hix : i < xs.length := by rw [← hsn.out]; exact hlt
      have hiv : i < vs.length := by rw [hx.out.1]; exact hix
      have hst := (hx.out.2 i hiv hix).below hO.out.bel
      have hrow := (hr.out.row hiv).below hO.out.bel
      obtain ⟨g, ro, hsa⟩ := row_place hrow hiv
      subst hsa
      have hel := hrow.some.2.elem (E := stepE) hiv
      have hw2 := hwl.out xs[i] (List.getElem_mem hix)
      have htk : Hid (xs.take (i + 1) = xs.take i ++ [xs[i]]) := List.take_succ_eq_append_getElem hix
      generalize xs[i] = st at *
      generalize vs[i] = sv at *
      obtain ⟨wts, nds, snd⟩ := st
      obtain ⟨wa, wn, wc0, na, nn, nc, ss⟩ := sv
      obtain ⟨hn, hws, hm, hns, hss⟩ := hst
      dsimp only at hn hws hm hns hss hw2
      subst hss
      replace hn := Rg.hid hn
      replace hm := Rg.hid hm
      have e0 : wr.cell? ⟨g, ro + i * 3, none⟩ = some (.slice wa wn wc0) := hel 0 _ rfl
      have e1 : wr.cell? ⟨g, ro + i * 3 + 1, none⟩ = some (.slice na nn nc) := hel 1 _ rfl
      have e2 : wr.cell? ⟨g, ro + i * 3 + 2, none⟩ = some (.string ss) := hel 2 _ rfl
      clear hel hrow hix hiv
      have hz0 : (0 : Int) ≤ (i : Int) := by omega
      have hz1 : (i : Int) < (sn : Int) := by omega
      have b4 := Rg.hid (Rg.al1 wr (.cells #[.slice wa wn wc0, .slice na nn nc, .string ss] 43))
      have kD4 : Hid (Rg.Bk wr.heap.size [.slice wa wn wc0, .slice na nn nc, .string ss] 43 (wr.alloc (.cells #[.slice wa wn wc0, .slice na nn nc, .string ss] 43))) := Rg.Bk.new rfl
      go_upto_region 5 with fail
      clear e0 e1 e2
      generalize (wr.alloc (.cells #[.slice wa wn wc0, .slice na nn nc, .string ss] 43)) = w4 at *
      obtain ⟨D, hD⟩ : ∃ D, D = wr.heap.size := ⟨_, rfl⟩
      rw [← hD] at kD4 ⊢
      have hDw : wr.heap.size ≤ D := by omega
      clear hD
      -- the texts that are waited for
      obtain ⟨g1, c1, w5, hap, hT5, hc5, hb5⟩ := app_texts wa wc0 wts wn hn.out w4 (hws.below b4.out) hw2.1
      replace hap := Rg.hid hap
      have a0 : (w4.alloc (.cells #[] 9)).cell? ⟨D, 0, none⟩ = some (.slice wa wn wc0) := (kD4.out.old _).cell 0
      have kD5 := kD4.out.below hb5 kD4.out.lt
      have f5 := kD5.thaw
      have c50 : w5.cell? ⟨D, 0, none⟩ = some (.slice wa wn wc0) := kD5.cell 0
      have o6 := Rg.Only.setCell w5 D 0 (.slice (some ⟨g1, 0, none⟩) wn c1)
      have kD6 : Hid (Rg.Bk D [.slice (some ⟨g1, 0, none⟩) wn c1, .slice na nn nc, .string ss] 43 (w5.setCell ⟨D, 0, none⟩ (.slice (some ⟨g1, 0, none⟩) wn c1))) := kD5.set 0 _
      have hT6 := Rg.hid (hT5.only kD5 step_str o6)
      have b6 := Rg.hid (((b4.out.trans (hb5.mono b4.out.size))).trans (o6.bel hDw))
      replace kD5 := Rg.hid kD5
      clear hb5 hT5 o6
      go_upto_region 6 with (at_builtin; refine Rg.wpList_append_run rfl (.tmp 13) (.tmp 15) 28 rfl _ _ rfl rfl _ _ hap.out ?_)
      clear a0 f5 c50 hap kD4 kD5 b4
      generalize World.setCell _ _ _ = w6 at *
      -- the texts in their stead
      obtain ⟨g2, c2, w7, hap, hT7, hc7, hb7⟩ := app_texts na nc nds nn hm.out w6 (hns.below b6.out) hw2.2
      replace hap := Rg.hid hap
      have a1 : (w6.alloc (.cells #[] 9)).cell? ⟨D, 1, none⟩ = some (.slice na nn nc) := (kD6.out.old _).cell 1
      have kD7 := kD6.out.below hb7 kD6.out.lt
      have f7 := kD7.thaw
      have c71 : w7.cell? ⟨D, 1, none⟩ = some (.slice na nn nc) := kD7.cell 1
      have o8 := Rg.Only.setCell w7 D 1 (.slice (some ⟨g2, 0, none⟩) nn c2)
      have kD8 : Hid (Rg.Bk D [.slice (some ⟨g1, 0, none⟩) wn c1, .slice (some ⟨g2, 0, none⟩) nn c2, .string ss] 43 (w7.setCell ⟨D, 1, none⟩ (.slice (some ⟨g2, 0, none⟩) nn c2))) := kD7.set 1 _
      have hT8 := Rg.hid ((hT6.out.below hb7).only kD7 step_str o8)
      have hN8 := Rg.hid (hT7.only kD7 step_str o8)
      have b8 := Rg.hid (((b6.out.trans (hb7.mono b6.out.size))).trans (o8.bel hDw))
      replace kD7 := Rg.hid kD7
      clear hb7 hT7 o8 hT6
      go_upto_region 7 with (at_builtin; refine Rg.wpList_append_run rfl (.tmp 18) (.tmp 20) 28 rfl _ _ rfl rfl _ _ hap.out ?_)
      clear a1 f7 c71 hap kD6 kD7 b6
      generalize World.setCell _ _ _ = w8 at *
      -- one step more
      have hst : StAt (w8.alloc (.cells #[.slice (some ⟨g1, 0, none⟩) wn c1, .slice (some ⟨g2, 0, none⟩) nn c2, .string ss] 43)) ⟨some ⟨g1, 0, none⟩, wn, c1, some ⟨g2, 0, none⟩, nn, c2, ss⟩ ⟨wts, nds, ss⟩ := ⟨hn.out, hT8.out.below (Rg.al1 _ _), hc5, hm.out, hN8.out.below (Rg.al1 _ _), hc7, rfl⟩
      obtain ⟨a9, c9, w9, hap, hO9⟩ := ((hO.out.below b8.out).below (Rg.al1 w8 (.cells #[.slice (some ⟨g1, 0, none⟩) wn c1, .slice (some ⟨g2, 0, none⟩) nn c2, .string ss] 43))).add hM.out (by rw [← hM.out]; omega) ⟨some ⟨g1, 0, none⟩, wn, c1, some ⟨g2, 0, none⟩, nn, c2, ss⟩ ⟨wts, nds, ss⟩ hst w8.heap.size (Rg.Bk.new rfl)
      rw [← htk.out] at hO9
      replace hap := Rg.hid hap
      replace hO9 := Rg.hid hO9
      have hM9 : Hid (i + 1 = (ws ++ [(⟨some ⟨g1, 0, none⟩, wn, c1, some ⟨g2, 0, none⟩, nn, c2, ss⟩ : SV)]).length) := by show _ = _; rw [List.length_append, List.length_singleton, ← hM.out]
      have d0 : w8.cell? ⟨D, 0, none⟩ = some (.slice (some ⟨g1, 0, none⟩) wn c1) := kD8.out.cell 0
      have d1 : w8.cell? ⟨D, 1, none⟩ = some (.slice (some ⟨g2, 0, none⟩) nn c2) := kD8.out.cell 1
      have d2 : w8.cell? ⟨D, 2, none⟩ = some (.string ss) := kD8.out.cell 2
      clear hst hO hM htk hT8 hN8 b8 hn hm hws hns kD8
      go_wp2_with (at_builtin; refine Rg.wpList_append_run rfl (.tmp 23) (.tmp 25) 22 rfl _ _ rfl rfl _ _ hap.out ?_)
      go_roundw
      case rel => exact ⟨i + 1, a9, c9, _, by omega, by go_num, rfl, hM9, hO9⟩
      case measure => simp [intOf]; omega
    · obtain rfl : i = sn := by omega
      have hO1 := hO.out
      rw [List.take_of_length_le (by rw [← hsn.out]; exact Nat.le_refl _)] at hO1
      have a0 : wr.cell? ⟨B, 0, none⟩ = some (.slice sa i sc) := hO1.chat.cell 0
      have af := hO1.chat.thaw
      have o5 := Rg.Only.setCell wr B 0 (.slice a3 i c3)
      have k5 : Hid (Rg.Bk B [.slice a3 i c3, .int .i64 cstep, .int .i64 cwant, .string cseen, .int .i64 cwait, .int .i64 cpat, .bool cover, .bool cfailed] 31 (wr.setCell ⟨B, 0, none⟩ (.slice a3 i c3))) := hO1.chat.set 0 _
      have r5 : Hid (Rg.Bk R [.slice none 0 0, .int .i64 0, .int .i64 0, .string ⟨#[]⟩, .int .i64 0, .int .i64 0, .bool false, .bool false] 31 (wr.setCell ⟨B, 0, none⟩ (.slice a3 i c3))) := hO1.res.same (o5.block R (Ne.symm hO1.low.2.2))
      have t5 : Hid (Rg.Tow stepE (wr.setCell ⟨B, 0, none⟩ (.slice a3 i c3)) a3 ws) := hO1.row.tow.only hO1.chat chat_step o5
      have s5 : Hid (StsAt (wr.setCell ⟨B, 0, none⟩ (.slice a3 i c3)) ws xs) := hO1.sts.only hO1.chat chat_str o5
      have b5 : Hid (Below w.heap.size w (wr.setCell ⟨B, 0, none⟩ (.slice a3 i c3))) := hO1.bel.trans (o5.bel hO1.low.1)
      have hle : i ≤ c3 := by have := hO1.row.le; rw [← hM.out] at this; exact this
      have hBR := hO1.low.2.2
      have hRw := hO1.low.2.1
      clear hO hO1 o5 hM
      go_upto_region 10 with fail
      clear a0 af
      generalize World.setCell _ _ _ = w5 at *
      have z0 : w5.cell? ⟨B, 0, none⟩ = some (.slice a3 i c3) := k5.out.cell 0
      have z1 : w5.cell? ⟨B, 1, none⟩ = some (.int .i64 cstep) := k5.out.cell 1
      have z2 : w5.cell? ⟨B, 2, none⟩ = some (.int .i64 cwant) := k5.out.cell 2
      have z3 : w5.cell? ⟨B, 3, none⟩ = some (.string cseen) := k5.out.cell 3
      have z4 : w5.cell? ⟨B, 4, none⟩ = some (.int .i64 cwait) := k5.out.cell 4
      have z5 : w5.cell? ⟨B, 5, none⟩ = some (.int .i64 cpat) := k5.out.cell 5
      have z6 : w5.cell? ⟨B, 6, none⟩ = some (.bool cover) := k5.out.cell 6
      have z7 : w5.cell? ⟨B, 7, none⟩ = some (.bool cfailed) := k5.out.cell 7
      have q0 : w5.cell? ⟨R, 0, none⟩ = some (.slice none 0 0) := r5.out.cell 0
      have q1 : w5.cell? ⟨R, 1, none⟩ = some (.int .i64 0) := r5.out.cell 1
      have q2 : w5.cell? ⟨R, 2, none⟩ = some (.int .i64 0) := r5.out.cell 2
      have q3 : w5.cell? ⟨R, 3, none⟩ = some (.string ⟨#[]⟩) := r5.out.cell 3
      have q4 : w5.cell? ⟨R, 4, none⟩ = some (.int .i64 0) := r5.out.cell 4
      have q5 : w5.cell? ⟨R, 5, none⟩ = some (.int .i64 0) := r5.out.cell 5
      have q6 : w5.cell? ⟨R, 6, none⟩ = some (.bool false) := r5.out.cell 6
      have q7 : w5.cell? ⟨R, 7, none⟩ = some (.bool false) := r5.out.cell 7
      have rf := r5.out.thaw
      obtain ⟨kE, oE⟩ := ret8 r5.out rfl (.slice a3 i c3) (.int .i64 cstep) (.int .i64 cwant) (.string cseen) (.int .i64 cwait) (.int .i64 cpat) (.bool cover) (.bool cfailed)
      have post : Hid (OPost w i xs cstep cwant cseen cwait cpat cover cfailed (.returned (.agg #[.slice a3 i c3, .int .i64 cstep, .int .i64 cwant, .string cseen, .int .i64 cwait, .int .i64 cpat, .bool cover, .bool cfailed])) _) := ⟨a3, c3, ws, rfl, t5.out.only r5.out chat_step oE, s5.out.only r5.out chat_str oE, hle, b5.out.trans (oE.bel hRw)⟩
      replace kE := Rg.hid kE
      clear oE t5 s5 b5 k5 r5
      go_wp2
      replace kE := kE.out
      replace post := post.out
      generalize World.setCell _ _ _ = WE at *
      exact bodyPost_ret (v := .agg #[.slice a3 i c3, .int .i64 cstep, .int .i64 cwant, .string cseen, .int .i64 cwait, .int .i64 cpat, .bool cover, .bool cfailed]) (by simp [results, Tryd.results26, go_sem, kE.cell]) rfl post
end Go.Proofs.YteepfifglafjmaaDoor
