/-
  Walks of layer 16: a drive loaded out of an end, and what String leaves. Walks of layer 16: an end that is left is a drive at rest. Walks of layer 16: Tick. Walks of layer 16: Close.
-/
import Derived.Test.YtlclfkogbfigbaaCuAQ
namespace Go.Proofs.Ytlclfkogbfigbaa
open Go.RowKit
theorem irow_loadPart {t : TypeId} {a : Addr} {W : World} {cs : List Value} (ha : ∀ w, (isAgg t).run Try.prog w = .ok true w) (hs : ∀ w, (sizeOf t).run Try.prog w = .ok cs.length w) (h : ∀ j v, cs[j]? = some v → W.cell? (a.add j) = some v) : (loadVar t a).run Try.prog W = .ok (.agg cs.toArray) W := by
  have hl := run_loadCells_list (P := Try.prog) W a cs h
  simp [loadVar, ha, hs, hl]
theorem iload_end {eb : Nat} {d : Gp.Dr} {p : Pl} {q : Qv} {W : World} (h : Rg.Bk eb (IC d p q) 51 W) : (loadVar 32 ⟨eb, 0, none⟩).run Try.prog W = .ok (DV d p) W := by
  refine irow_loadPart (cs := DC d p) Try.isAgg32 Try.sizeOf32 fun j v hj => ?_
  have e : (⟨eb, 0, none⟩ : Addr).add j = ⟨eb, j, none⟩ := by cases j <;> simp [Addr.add]
  rw [e, h.cell]
  have e2 : IC d p q = DC d p ++ [q.s, q.sb, q.cv] := rfl
  rw [e2, List.getElem?_append_left]
  · exact hj
  · rcases Nat.lt_or_ge j (DC d p).length with c | c
    · exact c
    · rw [List.getElem?_eq_none c] at hj; cases hj
theorem iexec_load_row {P : Program} {ρ : Operand → Value} {o : Oper} {w : World} (t : TypeId) (x : Operand) (ho : o.op = .load t x) {B : Nat} (hx : ρ x = .pointer (some ⟨B, 0, none⟩)) {v : Value} (hrun : (loadVar t ⟨B, 0, none⟩).run P w = .ok v w) : (execOp ρ o).run P w = .ok (.value v) w := by
  simp [execOp, ho, hx, Instr.loadAt, Instr.sureAddr, hrun, Result.andThen]
theorem istep_store_row {P : Program} {ops : Array Oper} {o : Oper} {a : Act} {w w' : World} {K : Act → World → Prop} {Q : Exit → Act → World → Prop} {E : Prop} (hg : o.guard = none) (x y : Operand) (t : TypeId)
    (ho : o.op = .store t x y) {R : Nat} (hx : a.eval x = .pointer (some ⟨R, 0, none⟩)) {v : Value} (hy : a.eval y = v) (hrun : (storeVar t ⟨R, 0, none⟩ v).run P w = .ok () w') (h : K (a.put o.dst undef) w') : if Region.wanted o (yielded ops a.tmps) = true then Oper.wp P o a w K Q else E := by
  have hw : Region.wanted o (yielded ops a.tmps) = true := by simp [Region.wanted, hg]
  rw [if_pos hw]
  unfold Oper.wp
  simp [execOp, ho, hx, hy, Instr.storeAt, Instr.sureAddr, hrun, Result.andThen, Oper.upon]
  exact h
theorem iresults_row2 {P : Program} {fn : Func} {tm tn : Tmp} {t : TypeId} (hf : fn.results = #[.cell tm t, .tmp tn]) {tmps : Array Value} {R : Nat} (hp : tmps.getD tm undef = .pointer (some ⟨R, 0, none⟩)) {v u : Value} {W : World} (hu : tmps.getD tn undef = u) (hrun : (loadVar t ⟨R, 0, none⟩).run P W = .ok v W) : (results fn tmps).run P W = .ok (.tuple #[v, u]) W := by
  simp only [Array.getD_eq_getD_getElem?] at hp hu
  simp [results, hf, hp, hu, asAddr, hrun]
theorem iresults_row3 {P : Program} {fn : Func} {tm tn tk : Tmp} {t : TypeId} (hf : fn.results = #[.cell tm t, .tmp tn, .tmp tk]) {tmps : Array Value} {R : Nat} (hp : tmps.getD tm undef = .pointer (some ⟨R, 0, none⟩)) {v u y : Value} {W : World} (hu : tmps.getD tn undef = u) (hy : tmps.getD tk undef = y) (hrun : (loadVar t ⟨R, 0, none⟩).run P W = .ok v W) : (results fn tmps).run P W = .ok (.tuple #[v, u, y]) W := by
  simp only [Array.getD_eq_getD_getElem?] at hp hu hy
  simp [results, hf, hp, hu, hy, asAddr, hrun]
/-- what String leaves of an end, and of the block for the result -/
theorem istr_end {Kp : Nat → Prop} {eb R : Nat} {w3 : World} {d : Gp.Dr} {p : Pl} {q : Qv} {S : List UInt8} {C : List Gp.Pc} {CR : List Value} (h : IAt Kp w3 eb d p q S C) (kR : Rg.Bk R CR 32 w3) :
    Calls Try.prog 11 #[.pointer (some ⟨eb, 18, none⟩)] w3.drew fun e w' => e = .returned (.string ⟨S.toArray⟩) ∧ Hid (Below eb w3 w' ∧ ∀ k, k < w3.heap.size → q.sb.ownBlock ≠ some k → w'.heap[k]? = w3.heap[k]?) ∧ Hid (Rg.Bk eb (IC d p q) 51 w') ∧ Hid (Rg.Bk R CR 32 w') := by
  refine (Bi.str eb eb 18 q.sb S w3.drew (h.drew.bk.cell 19) h.drew.said).mono fun e w' ⟨h1, h2⟩ => ?_
  have hb : Below eb w3 w' := (Below.drew (Below.refl _ _)).trans h2.bel
  exact ⟨h1, ⟨hb, fun k hk hne => h2.blk k hk hne⟩, h.bk.same (h2.blk eb h.bk.lt (h.said.ne h.bk (by decide))), kR.same (h2.blk R kR.lt (h.said.ne kR (by decide)))⟩
end Go.Proofs.Ytlclfkogbfigbaa

namespace Go.Proofs.Ytlclfkogbfigbaa
open Go.RowKit
/-- what a call of a drive hands back -/
def IXPost (Kp : Nat → Prop) (w : World) (r : Gp.Dr × List UInt8) (e : Ending) (w' : World) : Prop := ∃ p', e = .returned (.tuple #[DV r.1 p', .string ⟨r.2.toArray⟩]) ∧ IDR Kp w' r.1 p' ∧ Below w.heap.size w w'
/-- the rows of a drive at rest lie below the world's size -/
theorem ikrow_lt {Kp : Nat → Prop} {α : Type} {E : Rg.El α} {W : World} {a : Option Addr} {l : List α} (h : ERow E W a l) (k : iKRow Kp a l) : iKRow (fun b => Kp b ∧ b < W.heap.size) a l := by
  rcases k with k | ⟨b, o, h1, h2⟩
  · exact .inl k
  · rcases h with h | ⟨b', o', e1, e2, _⟩
    · exact .inl h
    · rw [h1] at e1
      cases e1
      exact .inr ⟨b, o, h1, h2, e2⟩
theorem IDR.lt {Kp : Nat → Prop} {W : World} {d : Gp.Dr} {p : Pl} (h : IDR Kp W d p) : IDR (fun b => Kp b ∧ b < W.heap.size) W d p := ⟨h.at_, h.wcap, h.acap, h.ql, h.wl, ikrow_lt h.at_.win h.kw, ikrow_lt h.at_.ahead h.ka, ikrow_lt h.at_.queue h.kq, ikrow_lt h.at_.took h.kt⟩
theorem IAt.rest {Kp : Nat → Prop} {base eb R : Nat} {W W' : World} {d : Gp.Dr} {p : Pl} {q : Qv} {S : List UInt8} {C : List Gp.Pc} {CR : List Value} (h : IAt (fun b => Kp b ∧ b < base) W eb d p q S C) (hq : d.queue.length ≤ 100000) (hwl : d.win.l.length ≤ 100000) (hn : base ≤ eb) (hK : ∀ b, base ≤ b → Kp b) (kR : Rg.Bk R CR 32 W) (hR2 : R < eb) (hk : ∀ k, k < W.heap.size → k ≠ eb → k ≠ R → q.sb.ownBlock ≠ some k → W'.heap[k]? = W.heap[k]?) (hb : Below base W W') : IDR Kp W' d p := by
  have key : ∀ {α : Type} {E : Rg.El α} {a : Option Addr} {l : List α}, TRow (fun b => Kp b ∧ b < base) E eb eb (ivs d p q) W a l → ERow E W' a l := fun {α E a l} h => by
    rcases h with h | ⟨b, o, h1, h2, h3, h4⟩
    · exact .inl h
    · refine .inr ⟨b, o, h1, Nat.lt_of_lt_of_le h2 hb.size, ?_⟩
      rcases h4 with h4 | ⟨h4, h5⟩
      · exact h3.below hb h4.2.2
      · exact h3.same (hk b h2 (by omega) (by omega) (h5 _ (by simp [ivs])))
  have key2 : ∀ {α : Type} {E : Rg.El α} {a : Option Addr} {l : List α}, TRow (fun b => Kp b ∧ b < base) E eb eb (ivs d p q) W a l → iKRow Kp a l := fun {α E a l} h2 => by
    rcases h2 with h2 | ⟨b, o, h1, _, _, h4⟩
    · exact .inl h2
    · rcases h4 with h4 | ⟨h4, _⟩
      · exact .inr ⟨b, o, h1, h4.2.1⟩
      · exact .inr ⟨b, o, h1, hK b (by omega)⟩
  have kah : ERow fiE W' p.a d.ahead ∧ iKRow Kp p.a d.ahead := by
    rcases h.ahead with ⟨_, ha⟩ | ⟨g, _, ha⟩
    · exact ⟨key ha, key2 ha⟩
    · have hlt := ha.lt
      have ha0 := ha
      obtain ⟨hg, o, cur, h2, h3, _⟩ := ha0
      refine ⟨(ha.kept (hk g hlt (by omega) (by omega) (fun e => ?_))).e, .inr ⟨g, o, h2, hK g (by omega)⟩⟩
      obtain ⟨c, fz, hT⟩ := Lib.ownsRowF_kind h.said.own g e
      rw [h3] at hT
      cases hT
  refine ⟨⟨key h.win, kah.1, key h.queue, ?_⟩, h.wcap, h.acap, hq, hwl, key2 h.win, kah.2, key2 h.queue, ?_⟩
  rotate_left
  · rcases h.took.2 with ⟨e, e0⟩ | ⟨g, cap, cur, e, hbg, _⟩
    · exact .inl (List.eq_nil_of_length_eq_zero e0)
    · injection e with e1 e2 e3
      exact .inr ⟨g, 0, e1, hK g (Nat.le_trans hn hbg)⟩
  rcases h.took.2 with ⟨e, e0⟩ | ⟨g, cap, cur, e, hbg, hgg, hle, _, hcs, htk⟩
  · exact .inl (List.eq_nil_of_length_eq_zero e0)
  · injection e with e1 e2 e3
    refine .inr ⟨g, 0, e1, Nat.lt_of_lt_of_le (Array.getElem?_eq_some_iff.1 hgg).1 hb.size, fun t u ht => ?_⟩
    have hgk : W'.heap[g]? = W.heap[g]? := by
      refine hk g (Array.getElem?_eq_some_iff.1 hgg).1 (fun e => ?_) (fun e => ?_) (fun e => ?_)
      · have k := h.bk
        unfold Rg.Bk at k
        rw [← e, hgg] at k
        cases k
      · unfold Rg.Bk at kR
        rw [← e, hgg] at kR
        cases kR
      · obtain ⟨c, fz, hT⟩ := Lib.ownsRowF_kind h.said.own g e
        rw [hgg] at hT
        cases hT
    rw [World.cell?_of_block (a := ⟨g, 0 + t, none⟩) hgk, Nat.zero_add, cell_of_row W g t cur _ _ hgg]
    rw [← htk, List.getElem?_take] at ht
    split at ht
    · simpa using ht
    · cases ht
end Go.Proofs.Ytlclfkogbfigbaa

namespace Go.Proofs.Ytlclfkogbfigbaa
open Go.RowKit
theorem itick_queue (d : Gp.Dr) : (Ip.tick d).1.queue = d.queue := by
  rw [itick_of]
  have e : (Ip.dropped (Gp.own d)).queue = d.queue := by unfold Ip.dropped; split <;> rfl
  rw [← e]
  generalize Ip.dropped (Gp.own d) = x
  unfold Ip.tickOf Ip.ticked
  repeat' split
  all_goals rfl
theorem itick_win (d : Gp.Dr) : (Ip.tick d).1.win = d.win := by
  rw [itick_of]
  have e : (Ip.dropped (Gp.own d)).win = d.win := by unfold Ip.dropped; split <;> rfl
  rw [← e]
  generalize Ip.dropped (Gp.own d) = x
  unfold Ip.tickOf Ip.ticked
  repeat' split
  all_goals rfl
end Go.Proofs.Ytlclfkogbfigbaa

namespace Go.Proofs.Ytlclfkogbfigbaa
open Go.RowKit
theorem iclose_queue (d : Gp.Dr) : (Ip.close d).1.queue = d.queue := by
  unfold Ip.close
  split <;> rfl
theorem iclose_win (d : Gp.Dr) : (Ip.close d).1.win = d.win := by
  unfold Ip.close
  split <;> rfl
end Go.Proofs.Ytlclfkogbfigbaa
