/-
  Walks of layer 16: a drive loaded out of an end, and what String leaves. Walks of layer 16: an end that is left is a drive at rest. Walks of layer 16: Tick. Walks of layer 16: Close.
-/
import Derived.Test.YtlclfkogbfigbaaGreatCuAQ
namespace Go.Proofs.YtlclfkogbfigbaaGreat
open Go.RowKit
theorem irow_loadPart {t : TypeId} {a : Addr} {W : World} {cs : List Value} (ha : ∀ w, (isAgg t).run Tryz.prog w = .ok true w) (hs : ∀ w, (sizeOf t).run Tryz.prog w = .ok cs.length w) (h : ∀ j v, cs[j]? = some v → W.cell? (a.add j) = some v) : (loadVar t a).run Tryz.prog W = .ok (.agg cs.toArray) W := by
  have hl := run_loadCells_list (P := Tryz.prog) W a cs h
  simp [loadVar, ha, hs, hl]
theorem iload_end {eb : Nat} {d : Gp.Dr} {p : Pl} {q : Qv} {W : World} (h : Rg.Bk eb (IC d p q) 69 W) : (loadVar 29 ⟨eb, 0, none⟩).run Tryz.prog W = .ok (DV d p) W := by
  refine irow_loadPart (cs := DC d p) Tryz.isAgg29 Tryz.sizeOf29 fun j v hj => ?_
  have e : (⟨eb, 0, none⟩ : Addr).add j = ⟨eb, j, none⟩ := by cases j <;> simp [Addr.add]
  rw [e, h.cell]
  have e2 : IC d p q = DC d p ++ [q.s, q.sb, q.cv] := rfl
  rw [e2, List.getElem?_append_left]
  · exact hj
  · rcases Nat.lt_or_ge j (DC d p).length with c | c
    · exact c
    · rw [List.getElem?_eq_none c] at hj; cases hj
theorem iexec_load_row {P : Program} {ρ : Operand → Value} {o : Oper} {w : World} (t : TypeId) (x : Operand) (ho : o.op = .load t x) {B : Nat} (hx : ρ x = .pointer (some ⟨B, 0, none⟩)) {v : Value} (hrun : (loadVar t ⟨B, 0, none⟩).run P w = .ok v w) : (execOp ρ o).run P w = .ok (.value v) w := by
  simp [execOp, ho, hx, Instr.loadAt, Instr.sureAddr, hrun, Result.andThen]
theorem istep_store_row {P : Program} {ops : Array Oper} {o : Oper} {a : Act} {w w' : World} {K : Act → World → Prop} {Q : Exit → Act → World → Prop} {E : Prop} (hg : o.guard = none) (x y : Operand) (t : TypeId)
    (ho : o.op = .store t x y) {R : Nat} (hx : a.eval x = .pointer (some ⟨R, 0, none⟩)) {v : Value} (hy : a.eval y = v) (hrun : (storeVar t ⟨R, 0, none⟩ v).run P w = .ok () w') (h : K (a.put o.dst undef) w') : if Region.wanted o (yielded ops a.tmps) = true then Oper.wp P o a w K Q else E := by
  have hw : Region.wanted o (yielded ops a.tmps) = true := by simp [Region.wanted, hg]
  rw [if_pos hw]
  unfold Oper.wp
  simp [execOp, ho, hx, hy, Instr.storeAt, Instr.sureAddr, hrun, Result.andThen, Oper.upon]
  exact h
theorem iresults_row2 {P : Program} {fn : Func} {tm tn : Tmp} {t : TypeId} (hf : fn.results = #[.cell tm t, .tmp tn]) {tmps : Array Value} {R : Nat} (hp : tmps.getD tm undef = .pointer (some ⟨R, 0, none⟩)) {v u : Value} {W : World} (hu : tmps.getD tn undef = u) (hrun : (loadVar t ⟨R, 0, none⟩).run P W = .ok v W) : (results fn tmps).run P W = .ok (.tuple #[v, u]) W := by
  simp only [Array.getD_eq_getD_getElem?] at hp hu
  simp [results, hf, hp, hu, asAddr, hrun]
theorem iresults_row3 {P : Program} {fn : Func} {tm tn tk : Tmp} {t : TypeId} (hf : fn.results = #[.cell tm t, .tmp tn, .tmp tk]) {tmps : Array Value} {R : Nat} (hp : tmps.getD tm undef = .pointer (some ⟨R, 0, none⟩)) {v u y : Value} {W : World} (hu : tmps.getD tn undef = u) (hy : tmps.getD tk undef = y) (hrun : (loadVar t ⟨R, 0, none⟩).run P W = .ok v W) : (results fn tmps).run P W = .ok (.tuple #[v, u, y]) W := by
  simp only [Array.getD_eq_getD_getElem?] at hp hu hy
  simp [results, hf, hp, hu, hy, asAddr, hrun]
/-- what String leaves of an end, and of the block for the result -/
theorem istr_end {Kp : Nat → Prop} {eb R : Nat} {w3 : World} {d : Gp.Dr} {p : Pl} {q : Qv} {S : List UInt8} {C : List Gp.Pc} {CR : List Value} (h : IAt Kp w3 eb d p q S C) (kR : Rg.Bk R CR 29 w3) :
    Calls Tryz.prog 27 #[.pointer (some ⟨eb, 18, none⟩)] w3.drew fun e w' => e = .returned (.string ⟨S.toArray⟩) ∧ Hid (Below eb w3 w' ∧ ∀ k, k < w3.heap.size → q.sb.ownBlock ≠ some k → w'.heap[k]? = w3.heap[k]?) ∧ Hid (Rg.Bk eb (IC d p q) 69 w') ∧ Hid (Rg.Bk R CR 29 w') := by
  refine (Bi.str eb eb 18 q.sb S w3.drew (h.drew.bk.cell 19) h.drew.said).mono fun e w' ⟨h1, h2⟩ => ?_
  have hb : Below eb w3 w' := (Below.drew (Below.refl _ _)).trans h2.bel
  exact ⟨h1, ⟨hb, fun k hk hne => h2.blk k hk hne⟩, h.bk.same (h2.blk eb h.bk.lt (h.said.ne h.bk (by decide))), kR.same (h2.blk R kR.lt (h.said.ne kR (by decide)))⟩
end Go.Proofs.YtlclfkogbfigbaaGreat

namespace Go.Proofs.YtlclfkogbfigbaaGreat
open Go.RowKit
/-- what a call of a drive hands back -/
def IXPost (Kp : Nat → Prop) (w : World) (r : Gp.Dr × List UInt8) (e : Ending) (w' : World) : Prop := ∃ p', e = .returned (.tuple #[DV r.1 p', .string ⟨r.2.toArray⟩]) ∧ IDR Kp w' r.1 p' ∧ Below w.heap.size w w'
/-- the rows of a drive at rest lie below the world's size -/
theorem ikrow_lt {Kp : Nat → Prop} {α : Type} {E : Rg.El α} {W : World} {a : Option Addr} {l : List α} (h : ERow E W a l) (k : iKRow Kp a l) : iKRow (fun b => Kp b ∧ b < W.heap.size) a l := by
  rcases k with k | ⟨b, o, h1, h2⟩
  · exact .inl k
  · rcases h with h | ⟨b', o', e1, e2, _⟩
    · exact .inl h
    · rw [h1] at e1
      cases e1
      exact .inr ⟨b, o, h1, h2, e2⟩
theorem IDR.lt {Kp : Nat → Prop} {W : World} {d : Gp.Dr} {p : Pl} (h : IDR Kp W d p) : IDR (fun b => Kp b ∧ b < W.heap.size) W d p := ⟨h.at_, h.wcap, h.acap, h.ql, h.wl, ikrow_lt h.at_.win h.kw, ikrow_lt h.at_.ahead h.ka, ikrow_lt h.at_.queue h.kq, ikrow_lt h.at_.took h.kt⟩
theorem IAt.rest {Kp : Nat → Prop} {base eb R : Nat} {W W' : World} {d : Gp.Dr} {p : Pl} {q : Qv} {S : List UInt8} {C : List Gp.Pc} {CR : List Value} (h : IAt (fun b => Kp b ∧ b < base) W eb d p q S C) (hq : d.queue.length ≤ 100000) (hwl : d.win.l.length ≤ 100000) (hn : base ≤ eb) (hK : ∀ b, base ≤ b → Kp b) (kR : Rg.Bk R CR 29 W) (hR2 : R < eb) (hk : ∀ k, k < W.heap.size → k ≠ eb → k ≠ R → q.sb.ownBlock ≠ some k → W'.heap[k]? = W.heap[k]?) (hb : Below base W W') : IDR Kp W' d p := by
  have key : ∀ {α : Type} {E : Rg.El α} {a : Option Addr} {l : List α}, TRow (fun b => Kp b ∧ b < base) E eb eb (ivs d p q) W a l → ERow E W' a l := fun {α E a l} h => by
    rcases h with h | ⟨b, o, h1, h2, h3, h4⟩
    · exact .inl h
    · refine .inr ⟨b, o, h1, Nat.lt_of_lt_of_le h2 hb.size, ?_⟩
      rcases h4 with h4 | ⟨h4, h5⟩
      · exact h3.below hb h4.2.2
      · exact h3.same (hk b h2 (by omega) (by omega) (h5 _ (by simp [ivs])))
  have key2 : ∀ {α : Type} {E : Rg.El α} {a : Option Addr} {l : List α}, TRow (fun b => Kp b ∧ b < base) E eb eb (ivs d p q) W a l → iKRow Kp a l := fun {α E a l} h2 => by
    rcases h2 with h2 | ⟨b, o, h1, _, _, h4⟩
    · exact .inl h2
    · rcases h4 with h4 | ⟨h4, _⟩
      · exact .inr ⟨b, o, h1, h4.2.1⟩
      · exact .inr ⟨b, o, h1, hK b (by omega)⟩
  have kah : ERow fiE W' p.a d.ahead ∧ iKRow Kp p.a d.ahead := by
    rcases h.ahead with ⟨_, ha⟩ | ⟨g, _, ha⟩
    · exact ⟨key ha, key2 ha⟩
    · have hlt := ha.lt
      have ha0 := ha
      obtain ⟨hg, o, cur, h2, h3, _⟩ := ha0
      refine ⟨(ha.kept (hk g hlt (by omega) (by omega) (fun e => ?_))).e, .inr ⟨g, o, h2, hK g (by omega)⟩⟩
      obtain ⟨c, fz, hT⟩ := Lib.ownsRowF_kind h.said.own g e
      rw [h3] at hT
      cases hT
  refine ⟨⟨key h.win, kah.1, key h.queue, ?_⟩, h.wcap, h.acap, hq, hwl, key2 h.win, kah.2, key2 h.queue, ?_⟩
  rotate_left
  · rcases h.took.2 with ⟨e, e0⟩ | ⟨g, cap, cur, e, hbg, _⟩
    · exact .inl (List.eq_nil_of_length_eq_zero e0)
    · injection e with e1 e2 e3
      exact .inr ⟨g, 0, e1, hK g (Nat.le_trans hn hbg)⟩
  rcases h.took.2 with ⟨e, e0⟩ | ⟨g, cap, cur, e, hbg, hgg, hle, _, hcs, htk⟩
  · exact .inl (List.eq_nil_of_length_eq_zero e0)
  · injection e with e1 e2 e3
    refine .inr ⟨g, 0, e1, Nat.lt_of_lt_of_le (Array.getElem?_eq_some_iff.1 hgg).1 hb.size, fun t u ht => ?_⟩
    have hgk : W'.heap[g]? = W.heap[g]? := by
      refine hk g (Array.getElem?_eq_some_iff.1 hgg).1 (fun e => ?_) (fun e => ?_) (fun e => ?_)
      · have k := h.bk
        unfold Rg.Bk at k
        rw [← e, hgg] at k
        cases k
      · unfold Rg.Bk at kR
        rw [← e, hgg] at kR
        cases kR
      · obtain ⟨c, fz, hT⟩ := Lib.ownsRowF_kind h.said.own g e
        rw [hgg] at hT
        cases hT
    rw [World.cell?_of_block (a := ⟨g, 0 + t, none⟩) hgk, Nat.zero_add, cell_of_row W g t cur _ _ hgg]
    rw [← htk, List.getElem?_take] at ht
    split at ht
    · simpa using ht
    · cases ht
end Go.Proofs.YtlclfkogbfigbaaGreat

namespace Go.Proofs.YtlclfkogbfigbaaGreat
open Go.RowKit
theorem itick_queue (d : Gp.Dr) : (Ip.tick d).1.queue = d.queue := by
  rw [itick_of]
  have e : (Ip.dropped (Gp.own d)).queue = d.queue := by unfold Ip.dropped; split <;> rfl
  rw [← e]
  generalize Ip.dropped (Gp.own d) = x
  unfold Ip.tickOf Ip.ticked
  repeat' split
  all_goals rfl
theorem itick_win (d : Gp.Dr) : (Ip.tick d).1.win = d.win := by
  rw [itick_of]
  have e : (Ip.dropped (Gp.own d)).win = d.win := by unfold Ip.dropped; split <;> rfl
  rw [← e]
  generalize Ip.dropped (Gp.own d) = x
  unfold Ip.tickOf Ip.ticked
  repeat' split
  all_goals rfl
set_option maxHeartbeats 4000000 in
set_option maxRecDepth 100000 in
theorem iTick_any {Kp : Nat → Prop} (d : Gp.Dr) (p : Pl) (w : World) (hd : IDR Kp w d p) (hr : Ip.right d) (hm : d.at_ + d.buf.length ≤ 1099511627776) (hK : Hid (∀ b, w.heap.size ≤ b → Kp b)) :
    Calls Tryz.prog 14 #[DV d p] w fun e w' => IXPost Kp w (Ip.tick d) e w' := by
  obtain ⟨CS, hCS⟩ : ∃ CS : Array Value, CS = (DC d p).toArray := ⟨_, rfl⟩
  have eDV : DV d p = .agg CS := by rw [hCS]; rfl
  have hin : (Tryz.prog.info? 29).map (·.size) = some CS.size := by rw [hCS]; exact iinfoDr2
  have kB0 : Hid (Rg.Bk w.heap.size CS.toList 29 ((w.alloc (.cells CS 29)).alloc (.cells #[.int .i64 0, .int .i64 0, .bool false, .int .i64 0, .int .i64 0, .int .i64 0, .int .i64 0, .int .i64 0, .int .i64 0, .slice none 0 0, .int .i64 0, .slice none 0 0, .string ⟨#[]⟩, .int .i64 0, .slice none 0 0, .int .i64 0, .int .i64 0, .slice none 0 0] 29))) := (Rg.Bk.new rfl).old _
  have kR0 : Hid (Rg.Bk (w.heap.size + 1) [.int .i64 0, .int .i64 0, .bool false, .int .i64 0, .int .i64 0, .int .i64 0, .int .i64 0, .int .i64 0, .int .i64 0, .slice none 0 0, .int .i64 0, .slice none 0 0, .string ⟨#[]⟩, .int .i64 0, .slice none 0 0, .int .i64 0, .int .i64 0, .slice none 0 0] 29 ((w.alloc (.cells CS 29)).alloc (.cells #[.int .i64 0, .int .i64 0, .bool false, .int .i64 0, .int .i64 0, .int .i64 0, .int .i64 0, .int .i64 0, .int .i64 0, .slice none 0 0, .int .i64 0, .slice none 0 0, .string ⟨#[]⟩, .int .i64 0, .slice none 0 0, .int .i64 0, .int .i64 0, .slice none 0 0] 29))) := Rg.Bk.new (by simp)
  have hb0 := Rg.hid (Rg.al2 w (.cells CS 29) (.cells #[.int .i64 0, .int .i64 0, .bool false, .int .i64 0, .int .i64 0, .int .i64 0, .int .i64 0, .int .i64 0, .int .i64 0, .slice none 0 0, .int .i64 0, .slice none 0 0, .string ⟨#[]⟩, .int .i64 0, .slice none 0 0, .int .i64 0, .int .i64 0, .slice none 0 0] 29))
  obtain ⟨r, hrr⟩ : ∃ r, r = Ip.tick d := ⟨_, rfl⟩
  have HT : Hid (∀ W, Below w.heap.size w W → Calls Tryz.prog 29 #[.agg CS, .func (.func 39) #[] #[]] W fun e w' => ∃ eb, e = .returned (.pointer (some ⟨eb, 0, none⟩)) ∧ Hid (W.heap.size ≤ eb ∧ IS (fun b => Kp b ∧ b < w.heap.size) w' eb r.1 r.2 [] ∧ Below W.heap.size W w')) := by
    intro W hW
    rw [← eDV]
    refine ithrough_tick d p w W hW hd.lt hr (fun eb w' => Hid (W.heap.size ≤ eb ∧ IS (fun b => Kp b ∧ b < w.heap.size) w' eb r.1 r.2 [] ∧ Below W.heap.size W w')) fun W1 p1 q1 eb hE hB hle => ?_
    refine (itickM_any hE (Ip.right_own hr) rfl hm (by simp)).mono fun e w' hp => ⟨hp.1, hle, ?_, hB.trans (hp.2.2.mono hle)⟩
    rw [hrr]; exact hp.2.1
  have hwr : Hid (r.1.win.l.length ≤ 100000) := by
    rw [hrr]
    rw [itick_win]; exact hd.wl
  have hqr : Hid (r.1.queue.length ≤ 100000) := by
    rw [hrr]
    rw [itick_queue]; exact hd.ql
  replace hrr := Rg.hid hrr
  rw [eDV]
  clear hCS eDV hd hr
  go_enter Tryz.func14, Tryz.ntmps14
  go_upto_region 1 with fail
  generalize World.alloc _ _ = w1 at *
  obtain ⟨B, hB⟩ : ∃ B, B = w.heap.size := ⟨_, rfl⟩
  obtain ⟨R, hR⟩ : ∃ R, R = w.heap.size + 1 := ⟨_, rfl⟩
  rw [← hR] at kR0 ⊢
  rw [← hB] at kB0 ⊢
  have hRw : Hid (w.heap.size ≤ R) := by show _ ≤ _; omega
  replace hB := Rg.hid hB
  replace hR := Rg.hid hR
  have hld := Rg.hid (Rg.row_loadVar (P := Tryz.prog) (t := 29) (CS := CS) kB0.out Tryz.underlying29 rfl hin)
  have HT1 := Rg.hid (HT.out w1 hb0.out)
  clear HT kB0 hin
  go_upto_region 2 with (first | (refine Rg.wpList_load_row rfl (.tmp 1) 29 rfl rfl hld.out ?_) | (go_at_call 29; refine HT1.out.mono ?_; rintro e w3 ⟨eb, rfl, hq⟩))
  obtain ⟨hle, ⟨p1, q1, hE⟩, hb3⟩ := hq.out
  replace hE := Rg.hid hE
  have kR3 := Rg.hid (kR0.out.below hb3 kR0.out.lt)
  have hRe : Hid (R < eb) := Nat.lt_of_lt_of_le kR0.out.lt hle
  have hRe2 : Hid (eb ≠ R) := fun e => by have := hRe.out; omega
  have hwe : Hid (w.heap.size ≤ eb) := Nat.le_trans hb0.out.size hle
  have hb4 := Rg.hid (Rg.chain hb0.out hb3)
  have HStr := Rg.hid (istr_end hE.out kR3.out)
  obtain ⟨d1, hd1⟩ : ∃ d1, d1 = r.1 := ⟨_, rfl⟩
  obtain ⟨so, hso⟩ : ∃ so, so = r.2 := ⟨_, rfl⟩
  rw [← hd1] at hE HStr hqr hwr
  rw [← hso] at hE HStr
  replace hd1 := Rg.hid hd1
  replace hso := Rg.hid hso
  clear HT1 hld hq hb3 kR0 hb0
  refine wp_region_held_drew (S := (fun (w' : World) => Rg.Bk eb (IC d1 p1 q1) 69 w')) (by kernel_rfl) ?_ (fun hH0 => ?_)
  · exact hE.out.bk
  refine wpAnyH_take (i := 0) (oi := { dst := some 7, op := _, type := _, pos := _, after := _, guard := _ }) (v := ?_) rfl (by kernel_rfl) (by kernel_rfl) (by kernel_rfl) (fun _ _ _ h => h) (Or.inl ⟨by rfl, ?_⟩) (by assumption) ?_
  rotate_left
  · (intro w hSw; clear hSw; go_simp); (try with_reducible rfl)
  simp only [Act.put, List.setIfInBounds_toArray, List.set_cons_zero, List.set_cons_succ]
  refine wpAnyH_take (i := 1) (oi := { dst := some 8, op := _, type := _, pos := _, after := _, guard := _ }) (v := ?_) rfl (by kernel_rfl) (by kernel_rfl) (by kernel_rfl) (fun _ _ _ h => h) (Or.inl ⟨by rfl, ?_⟩) (by assumption) ?_
  rotate_left
  · (intro w hSw; clear hSw; go_simp); (try with_reducible rfl)
  simp only [Act.put, List.setIfInBounds_toArray, List.set_cons_zero, List.set_cons_succ]
  refine wpAnyH_take (i := 2) (oi := { dst := some 9, op := _, type := _, pos := _, after := _, guard := _ }) (v := ?_) rfl (by kernel_rfl) (by kernel_rfl) (by kernel_rfl) (fun _ _ _ h => h) (Or.inl ⟨by rfl, ?_⟩) (by assumption) ?_
  rotate_left
  · (intro w hSw; clear hSw; go_simp); (try with_reducible rfl)
  simp only [Act.put, List.setIfInBounds_toArray, List.set_cons_zero, List.set_cons_succ]
  refine wpAnyH_take (i := 3) (oi := { dst := some 10, op := _, type := _, pos := _, after := _, guard := _ }) (v := DV d1 p1) rfl (by kernel_rfl) (by kernel_rfl) (by kernel_rfl) (fun _ _ _ h => h) (Or.inl ⟨by rfl, fun w hSw => iexec_load_row _ _ rfl rfl (iload_end hSw)⟩) (by assumption) ?_
  simp only [Act.put, List.setIfInBounds_toArray, List.set_cons_zero, List.set_cons_succ]
  refine wpAnyH_take (i := 4) (oi := { dst := some 11, op := _, type := _, pos := _, after := _, guard := _ }) (v := ?_) rfl (by kernel_rfl) (by kernel_rfl) (by kernel_rfl) (fun _ _ _ h => h) (Or.inl ⟨by rfl, ?_⟩) (by assumption) ?_
  rotate_left
  · (intro w hSw; clear hSw; go_simp); (try with_reducible rfl)
  simp only [Act.put, List.setIfInBounds_toArray, List.set_cons_zero, List.set_cons_succ]
  refine wpAnyH_take (i := 5) (oi := { dst := some 12, op := _, type := _, pos := _, after := _, guard := _ }) (v := ?_) rfl (by kernel_rfl) (by kernel_rfl) (by kernel_rfl) (fun _ _ _ h => h) (Or.inl ⟨by rfl, ?_⟩) (by assumption) ?_
  rotate_left
  · (intro w hSw; clear hSw; go_simp); (try with_reducible rfl)
  simp only [Act.put, List.setIfInBounds_toArray, List.set_cons_zero, List.set_cons_succ]
  refine wpAnyH_take (i := 6) (oi := { dst := some 13, op := _, type := _, pos := _, after := _, guard := _ }) (v := ?_) rfl (by kernel_rfl) (by kernel_rfl) (by kernel_rfl) (fun _ _ _ h => h) (Or.inl ⟨by rfl, ?_⟩) (by assumption) ?_
  rotate_left
  · (intro w hSw; clear hSw; go_simp); (try with_reducible rfl)
  simp only [Act.put, List.setIfInBounds_toArray, List.set_cons_zero, List.set_cons_succ]
  refine wpAnyH_ready (rs := [7]) (by kernel_rfl) (by simp) ?_
  refine AllReadyH.cons (o := { dst := some 14, op := _, type := _, pos := _, after := _, guard := _ }) rfl (fun K hK => ?_) AllReadyH.nil
  go_simp
  go_at_call 27; refine HStr.out.mono ?_; rintro e w5 ⟨rfl, hb5, kE5, kR5⟩
  refine hK.out _ _ ?_ (fun hH7 => ?_)
  · exact kE5.out
  clear hK K hH0
  try simp only [Act.put, List.setIfInBounds_toArray, List.set_cons_zero, List.set_cons_succ]
  obtain ⟨w6, hst, kR6, oR6⟩ := Rg.row_storeVar (P := Tryz.prog) (t := 29) (CS := (DC d1 p1).toArray) kR5.out iinfoDr2 rfl (by simp [DC, Value.oneCell'])
  replace hst : Hid ((storeVar 29 ⟨R, 0, none⟩ (DV d1 p1)).run Tryz.prog w5 = .ok () w6) := hst
  have kE6 : Hid (Rg.Bk eb (IC d1 p1 q1) 69 w6) := kE5.out.same (oR6.block eb hRe2.out)
  refine wpAnyH_ready (rs := [8]) (by kernel_rfl) (by simp) ?_
  refine AllReadyH.cons (o := { dst := none, op := _, type := _, pos := _, after := _, guard := _ }) rfl (fun K hK => ?_) AllReadyH.nil
  refine istep_store_row (by rfl) (.tmp 2) (.tmp 10) 29 (by rfl) (by rfl) (by rfl) hst.out ?_
  refine hK.out _ _ ?_ (fun hH8 => ?_)
  · exact kE6.out
  clear hK K hH7
  simp only [Act.put]
  refine wpAnyH_take (i := 9) (oi := { dst := some 3, op := _, type := _, pos := _, after := _, guard := _ }) (v := ?_) rfl (by kernel_rfl) (by kernel_rfl) (by kernel_rfl) (fun _ _ _ h => h) (Or.inl ⟨by rfl, ?_⟩) (by assumption) ?_
  rotate_left
  · (intro w hSw; clear hSw; go_simp); (try with_reducible rfl)
  simp only [Act.put, List.setIfInBounds_toArray, List.set_cons_zero, List.set_cons_succ]
  refine wpAnyH_done (by kernel_rfl) ?_ _
  have hfin : IDR Kp w6 d1 p1 := hE.out.rest hqr.out hwr.out hwe.out hK.out kR3.out hRe.out (fun k hk h1 h2 h3 => by rw [oR6.block k h2]; exact hb5.out.2 k hk h3) ((hb5.out.1.mono hwe.out).trans (oR6.bel hRw.out))
  have hbel : Below w.heap.size w w6 := (hb4.out.trans (hb5.out.1.mono hwe.out)).trans (oR6.bel hRw.out)
  have hres : (loadVar 29 ⟨R, 0, none⟩).run Tryz.prog w6 = .ok (DV d1 p1) w6 := Rg.row_loadVar (P := Tryz.prog) (t := 29) (CS := (DC d1 p1).toArray) kR6 Tryz.underlying29 rfl iinfoDr2
  have hfe : IXPost Kp w (Ip.tick d) (.returned (.tuple #[DV d1 p1, .string ⟨so.toArray⟩])) w6 := by
    rw [← hrr.out]
    refine ⟨p1, by rw [hd1.out, hso.out], by rw [← hd1.out]; exact hfin, hbel⟩
  clear hfin hbel hE HStr hb5 kE5 kR5 oR6 kE6 kR6 hst hb4 kR3 hH8
  go_wp2
  exact bodyPost_ret (v := .tuple #[DV d1 p1, .string ⟨so.toArray⟩]) (iresults_row2 rfl rfl rfl hres) rfl hfe
end Go.Proofs.YtlclfkogbfigbaaGreat

namespace Go.Proofs.YtlclfkogbfigbaaGreat
open Go.RowKit
set_option maxHeartbeats 1000000 in
set_option maxRecDepth 100000 in
theorem icloseC_no (eb : Nat) (W : World) (HI : Hid (Calls Tryz.prog 44 #[.pointer (some ⟨eb, 0, none⟩)] W fun e w' => e = .returned (.bool false) ∧ w' = W)) :
    Calls Tryz.prog 46 #[.pointer (some ⟨eb, 0, none⟩)] W fun e w' => e = .returned (.tuple #[]) ∧ w' = W := by
  go_enter Tryz.func46, Tryz.ntmps46
  go_wp2_with (go_at_call 44; refine HI.out.mono ?_; rintro e w2 ⟨rfl, hw⟩; obtain rfl := hw.symm)
  exact bodyPost_ret (v := .tuple #[]) (by simp [results, Tryz.results46, go_sem]) rfl ⟨rfl, rfl⟩
set_option maxHeartbeats 1000000 in
set_option maxRecDepth 100000 in
theorem icloseC_yes {Kp : Nat → Prop} {W : World} {eb : Nat} {d : Gp.Dr} {p : Pl} {q : Qv} {S : List UInt8} {C : List Gp.Pc} (h : IAt Kp W eb d p q S C) (Post : Ending → World → Prop) (HI : Hid (Calls Tryz.prog 44 #[.pointer (some ⟨eb, 0, none⟩)] W fun e w' => e = .returned (.bool true) ∧ w' = W))
    (HS : Hid (∀ W1, IAt Kp W1 eb { d with phase := 3, tries := 0, step := 0 } p q S C → Below eb W W1 → Calls Tryz.prog 47 #[.pointer (some ⟨eb, 0, none⟩)] W1 fun e w' => e = .returned (.tuple #[]) ∧ Post (.returned (.tuple #[])) w')) :
    Calls Tryz.prog 46 #[.pointer (some ⟨eb, 0, none⟩)] W Post := by
  have c1 : W.cell? ⟨eb, 1, none⟩ = some (.int .i64 d.phase) := h.bk.cell 1
  have c3 : W.cell? ⟨eb, 3, none⟩ = some (.int .i64 d.step) := h.bk.cell 3
  have c16 : W.cell? ⟨eb, 16, none⟩ = some (.int .i64 d.tries) := h.bk.cell 16
  have fz := h.bk.thaw
  have h7 := Rg.hid (((h.upd 1 (.int .i64 3) { d with phase := 3 } rfl rfl rfl rfl rfl).upd 16 (.int .i64 0) { d with phase := 3, tries := 0 } rfl rfl rfl rfl rfl).upd 3 (.int .i64 0) { d with phase := 3, tries := 0, step := 0 } rfl rfl rfl rfl rfl)
  have f7 : Hid (Below eb W (((W.setCell ⟨eb, 1, none⟩ (.int .i64 3)).setCell ⟨eb, 16, none⟩ (.int .i64 0)).setCell ⟨eb, 3, none⟩ (.int .i64 0))) := ((below_set eb _ _).trans (below_set eb _ _)).trans (below_set eb _ _)
  clear h
  go_enter Tryz.func46, Tryz.ntmps46
  go_upto_region 2 with (go_at_call 44; refine HI.out.mono ?_; rintro e w2 ⟨rfl, hw⟩; obtain rfl := hw.symm)
  generalize World.setCell _ _ _ = w1 at *
  go_wp2_with (go_at_call 47; refine (HS.out _ h7.out f7.out).mono ?_; rintro e w3 ⟨rfl, hp⟩)
  go_end0
  exact hp
theorem icloseC_any {Kp : Nat → Prop} {W : World} {eb : Nat} {d : Gp.Dr} {p : Pl} {q : Qv} (h : IAt Kp W eb (Gp.own d) p q [] []) (hw : 0 ≤ d.wants ∧ d.wants ≤ 31) :
    Calls Tryz.prog 46 #[.pointer (some ⟨eb, 0, none⟩)] W fun e w' => IPost Kp eb W (Ip.close d).1 (Ip.close d).2 [] e w' := by
  have HI := iisOpen_any h.bk
  have e0 : (Gp.own d).phase = d.phase := rfl
  rw [e0] at HI
  unfold Ip.close
  by_cases hp : d.phase ≠ 1 ∧ d.phase ≠ 2
  · rw [if_pos hp]
    rw [show decide (d.phase = 1 ∨ d.phase = 2) = false by simp [hp]] at HI
    exact IPost.id h (icloseC_no eb W HI)
  · rw [if_neg hp]
    rw [show decide (d.phase = 1 ∨ d.phase = 2) = true by simp; omega] at HI
    exact icloseC_yes h _ HI fun W1 hh f => IPost.go f (isayClose_any hh hw (by simp))
theorem iclose_queue (d : Gp.Dr) : (Ip.close d).1.queue = d.queue := by
  unfold Ip.close
  split <;> rfl
theorem iclose_win (d : Gp.Dr) : (Ip.close d).1.win = d.win := by
  unfold Ip.close
  split <;> rfl
set_option maxHeartbeats 4000000 in
set_option maxRecDepth 100000 in
theorem iClose_any {Kp : Nat → Prop} (d : Gp.Dr) (p : Pl) (w : World) (hd : IDR Kp w d p) (hr : Ip.right d) (hK : Hid (∀ b, w.heap.size ≤ b → Kp b)) :
    Calls Tryz.prog 19 #[DV d p] w fun e w' => IXPost Kp w (Ip.close d) e w' := by
  obtain ⟨CS, hCS⟩ : ∃ CS : Array Value, CS = (DC d p).toArray := ⟨_, rfl⟩
  have eDV : DV d p = .agg CS := by rw [hCS]; rfl
  have hin : (Tryz.prog.info? 29).map (·.size) = some CS.size := by rw [hCS]; exact iinfoDr2
  have kB0 : Hid (Rg.Bk w.heap.size CS.toList 29 ((w.alloc (.cells CS 29)).alloc (.cells #[.int .i64 0, .int .i64 0, .bool false, .int .i64 0, .int .i64 0, .int .i64 0, .int .i64 0, .int .i64 0, .int .i64 0, .slice none 0 0, .int .i64 0, .slice none 0 0, .string ⟨#[]⟩, .int .i64 0, .slice none 0 0, .int .i64 0, .int .i64 0, .slice none 0 0] 29))) := (Rg.Bk.new rfl).old _
  have kR0 : Hid (Rg.Bk (w.heap.size + 1) [.int .i64 0, .int .i64 0, .bool false, .int .i64 0, .int .i64 0, .int .i64 0, .int .i64 0, .int .i64 0, .int .i64 0, .slice none 0 0, .int .i64 0, .slice none 0 0, .string ⟨#[]⟩, .int .i64 0, .slice none 0 0, .int .i64 0, .int .i64 0, .slice none 0 0] 29 ((w.alloc (.cells CS 29)).alloc (.cells #[.int .i64 0, .int .i64 0, .bool false, .int .i64 0, .int .i64 0, .int .i64 0, .int .i64 0, .int .i64 0, .int .i64 0, .slice none 0 0, .int .i64 0, .slice none 0 0, .string ⟨#[]⟩, .int .i64 0, .slice none 0 0, .int .i64 0, .int .i64 0, .slice none 0 0] 29))) := Rg.Bk.new (by simp)
  have hb0 := Rg.hid (Rg.al2 w (.cells CS 29) (.cells #[.int .i64 0, .int .i64 0, .bool false, .int .i64 0, .int .i64 0, .int .i64 0, .int .i64 0, .int .i64 0, .int .i64 0, .slice none 0 0, .int .i64 0, .slice none 0 0, .string ⟨#[]⟩, .int .i64 0, .slice none 0 0, .int .i64 0, .int .i64 0, .slice none 0 0] 29))
  obtain ⟨r, hrr⟩ : ∃ r, r = Ip.close d := ⟨_, rfl⟩
  have HT : Hid (∀ W, Below w.heap.size w W → Calls Tryz.prog 29 #[.agg CS, .func (.func 46) #[] #[]] W fun e w' => ∃ eb, e = .returned (.pointer (some ⟨eb, 0, none⟩)) ∧ Hid (W.heap.size ≤ eb ∧ IS (fun b => Kp b ∧ b < w.heap.size) w' eb r.1 r.2 [] ∧ Below W.heap.size W w')) := by
    intro W hW
    rw [← eDV]
    refine ithrough_close d p w W hW hd.lt hr (fun eb w' => Hid (W.heap.size ≤ eb ∧ IS (fun b => Kp b ∧ b < w.heap.size) w' eb r.1 r.2 [] ∧ Below W.heap.size W w')) fun W1 p1 q1 eb hE hB hle => ?_
    refine (icloseC_any hE hr.1.wn).mono fun e w' hp => ⟨hp.1, hle, ?_, hB.trans (hp.2.2.mono hle)⟩
    rw [hrr]; exact hp.2.1
  have hwr : Hid (r.1.win.l.length ≤ 100000) := by
    rw [hrr]
    rw [iclose_win]; exact hd.wl
  have hqr : Hid (r.1.queue.length ≤ 100000) := by
    rw [hrr]
    rw [iclose_queue]; exact hd.ql
  replace hrr := Rg.hid hrr
  rw [eDV]
  clear hCS eDV hd hr
  go_enter Tryz.func19, Tryz.ntmps19
  go_upto_region 1 with fail
  generalize World.alloc _ _ = w1 at *
  obtain ⟨B, hB⟩ : ∃ B, B = w.heap.size := ⟨_, rfl⟩
  obtain ⟨R, hR⟩ : ∃ R, R = w.heap.size + 1 := ⟨_, rfl⟩
  rw [← hR] at kR0 ⊢
  rw [← hB] at kB0 ⊢
  have hRw : Hid (w.heap.size ≤ R) := by show _ ≤ _; omega
  replace hB := Rg.hid hB
  replace hR := Rg.hid hR
  have hld := Rg.hid (Rg.row_loadVar (P := Tryz.prog) (t := 29) (CS := CS) kB0.out Tryz.underlying29 rfl hin)
  have HT1 := Rg.hid (HT.out w1 hb0.out)
  clear HT kB0 hin
  go_upto_region 2 with (first | (refine Rg.wpList_load_row rfl (.tmp 1) 29 rfl rfl hld.out ?_) | (go_at_call 29; refine HT1.out.mono ?_; rintro e w3 ⟨eb, rfl, hq⟩))
  obtain ⟨hle, ⟨p1, q1, hE⟩, hb3⟩ := hq.out
  replace hE := Rg.hid hE
  have kR3 := Rg.hid (kR0.out.below hb3 kR0.out.lt)
  have hRe : Hid (R < eb) := Nat.lt_of_lt_of_le kR0.out.lt hle
  have hRe2 : Hid (eb ≠ R) := fun e => by have := hRe.out; omega
  have hwe : Hid (w.heap.size ≤ eb) := Nat.le_trans hb0.out.size hle
  have hb4 := Rg.hid (Rg.chain hb0.out hb3)
  have HStr := Rg.hid (istr_end hE.out kR3.out)
  obtain ⟨d1, hd1⟩ : ∃ d1, d1 = r.1 := ⟨_, rfl⟩
  obtain ⟨so, hso⟩ : ∃ so, so = r.2 := ⟨_, rfl⟩
  rw [← hd1] at hE HStr hqr hwr
  rw [← hso] at hE HStr
  replace hd1 := Rg.hid hd1
  replace hso := Rg.hid hso
  clear HT1 hld hq hb3 kR0 hb0
  refine wp_region_held_drew (S := (fun (w' : World) => Rg.Bk eb (IC d1 p1 q1) 69 w')) (by kernel_rfl) ?_ (fun hH0 => ?_)
  · exact hE.out.bk
  refine wpAnyH_take (i := 0) (oi := { dst := some 7, op := _, type := _, pos := _, after := _, guard := _ }) (v := ?_) rfl (by kernel_rfl) (by kernel_rfl) (by kernel_rfl) (fun _ _ _ h => h) (Or.inl ⟨by rfl, ?_⟩) (by assumption) ?_
  rotate_left
  · (intro w hSw; clear hSw; go_simp); (try with_reducible rfl)
  simp only [Act.put, List.setIfInBounds_toArray, List.set_cons_zero, List.set_cons_succ]
  refine wpAnyH_take (i := 1) (oi := { dst := some 8, op := _, type := _, pos := _, after := _, guard := _ }) (v := ?_) rfl (by kernel_rfl) (by kernel_rfl) (by kernel_rfl) (fun _ _ _ h => h) (Or.inl ⟨by rfl, ?_⟩) (by assumption) ?_
  rotate_left
  · (intro w hSw; clear hSw; go_simp); (try with_reducible rfl)
  simp only [Act.put, List.setIfInBounds_toArray, List.set_cons_zero, List.set_cons_succ]
  refine wpAnyH_take (i := 2) (oi := { dst := some 9, op := _, type := _, pos := _, after := _, guard := _ }) (v := ?_) rfl (by kernel_rfl) (by kernel_rfl) (by kernel_rfl) (fun _ _ _ h => h) (Or.inl ⟨by rfl, ?_⟩) (by assumption) ?_
  rotate_left
  · (intro w hSw; clear hSw; go_simp); (try with_reducible rfl)
  simp only [Act.put, List.setIfInBounds_toArray, List.set_cons_zero, List.set_cons_succ]
  refine wpAnyH_take (i := 3) (oi := { dst := some 10, op := _, type := _, pos := _, after := _, guard := _ }) (v := DV d1 p1) rfl (by kernel_rfl) (by kernel_rfl) (by kernel_rfl) (fun _ _ _ h => h) (Or.inl ⟨by rfl, fun w hSw => iexec_load_row _ _ rfl rfl (iload_end hSw)⟩) (by assumption) ?_
  simp only [Act.put, List.setIfInBounds_toArray, List.set_cons_zero, List.set_cons_succ]
  refine wpAnyH_take (i := 4) (oi := { dst := some 11, op := _, type := _, pos := _, after := _, guard := _ }) (v := ?_) rfl (by kernel_rfl) (by kernel_rfl) (by kernel_rfl) (fun _ _ _ h => h) (Or.inl ⟨by rfl, ?_⟩) (by assumption) ?_
  rotate_left
  · (intro w hSw; clear hSw; go_simp); (try with_reducible rfl)
  simp only [Act.put, List.setIfInBounds_toArray, List.set_cons_zero, List.set_cons_succ]
  refine wpAnyH_take (i := 5) (oi := { dst := some 12, op := _, type := _, pos := _, after := _, guard := _ }) (v := ?_) rfl (by kernel_rfl) (by kernel_rfl) (by kernel_rfl) (fun _ _ _ h => h) (Or.inl ⟨by rfl, ?_⟩) (by assumption) ?_
  rotate_left
  · (intro w hSw; clear hSw; go_simp); (try with_reducible rfl)
  simp only [Act.put, List.setIfInBounds_toArray, List.set_cons_zero, List.set_cons_succ]
  refine wpAnyH_take (i := 6) (oi := { dst := some 13, op := _, type := _, pos := _, after := _, guard := _ }) (v := ?_) rfl (by kernel_rfl) (by kernel_rfl) (by kernel_rfl) (fun _ _ _ h => h) (Or.inl ⟨by rfl, ?_⟩) (by assumption) ?_
  rotate_left
  · (intro w hSw; clear hSw; go_simp); (try with_reducible rfl)
  simp only [Act.put, List.setIfInBounds_toArray, List.set_cons_zero, List.set_cons_succ]
  refine wpAnyH_ready (rs := [7]) (by kernel_rfl) (by simp) ?_
  refine AllReadyH.cons (o := { dst := some 14, op := _, type := _, pos := _, after := _, guard := _ }) rfl (fun K hK => ?_) AllReadyH.nil
  go_simp
  go_at_call 27; refine HStr.out.mono ?_; rintro e w5 ⟨rfl, hb5, kE5, kR5⟩
  refine hK.out _ _ ?_ (fun hH7 => ?_)
  · exact kE5.out
  clear hK K hH0
  try simp only [Act.put, List.setIfInBounds_toArray, List.set_cons_zero, List.set_cons_succ]
  obtain ⟨w6, hst, kR6, oR6⟩ := Rg.row_storeVar (P := Tryz.prog) (t := 29) (CS := (DC d1 p1).toArray) kR5.out iinfoDr2 rfl (by simp [DC, Value.oneCell'])
  replace hst : Hid ((storeVar 29 ⟨R, 0, none⟩ (DV d1 p1)).run Tryz.prog w5 = .ok () w6) := hst
  have kE6 : Hid (Rg.Bk eb (IC d1 p1 q1) 69 w6) := kE5.out.same (oR6.block eb hRe2.out)
  refine wpAnyH_ready (rs := [8]) (by kernel_rfl) (by simp) ?_
  refine AllReadyH.cons (o := { dst := none, op := _, type := _, pos := _, after := _, guard := _ }) rfl (fun K hK => ?_) AllReadyH.nil
  refine istep_store_row (by rfl) (.tmp 2) (.tmp 10) 29 (by rfl) (by rfl) (by rfl) hst.out ?_
  refine hK.out _ _ ?_ (fun hH8 => ?_)
  · exact kE6.out
  clear hK K hH7
  simp only [Act.put]
  refine wpAnyH_take (i := 9) (oi := { dst := some 3, op := _, type := _, pos := _, after := _, guard := _ }) (v := ?_) rfl (by kernel_rfl) (by kernel_rfl) (by kernel_rfl) (fun _ _ _ h => h) (Or.inl ⟨by rfl, ?_⟩) (by assumption) ?_
  rotate_left
  · (intro w hSw; clear hSw; go_simp); (try with_reducible rfl)
  simp only [Act.put, List.setIfInBounds_toArray, List.set_cons_zero, List.set_cons_succ]
  refine wpAnyH_done (by kernel_rfl) ?_ _
  have hfin : IDR Kp w6 d1 p1 := hE.out.rest hqr.out hwr.out hwe.out hK.out kR3.out hRe.out (fun k hk h1 h2 h3 => by rw [oR6.block k h2]; exact hb5.out.2 k hk h3) ((hb5.out.1.mono hwe.out).trans (oR6.bel hRw.out))
  have hbel : Below w.heap.size w w6 := (hb4.out.trans (hb5.out.1.mono hwe.out)).trans (oR6.bel hRw.out)
  have hres : (loadVar 29 ⟨R, 0, none⟩).run Tryz.prog w6 = .ok (DV d1 p1) w6 := Rg.row_loadVar (P := Tryz.prog) (t := 29) (CS := (DC d1 p1).toArray) kR6 Tryz.underlying29 rfl iinfoDr2
  have hfe : IXPost Kp w (Ip.close d) (.returned (.tuple #[DV d1 p1, .string ⟨so.toArray⟩])) w6 := by
    rw [← hrr.out]
    refine ⟨p1, by rw [hd1.out, hso.out], by rw [← hd1.out]; exact hfin, hbel⟩
  clear hfin hbel hE HStr hb5 kE5 kR5 oR6 kE6 kR6 hst hb4 kR3 hH8
  go_wp2
  exact bodyPost_ret (v := .tuple #[DV d1 p1, .string ⟨so.toArray⟩]) (iresults_row2 rfl rfl rfl hres) rfl hfe
end Go.Proofs.YtlclfkogbfigbaaGreat
