/-
  Walks of layer 15: what Tick, Close, Send hand back. Walks of layer 15: the closures of Close, Send, Feed. Walks of layer 15: Begin. Layer 15: drives as the laws hold them, and the calls of the package over them.
-/
import Derived.Test.YtomldoijcclhhaaGreatSkAM
namespace Go.Proofs.YtomldoijcclhhaaGreat
open Go.RowKit
theorem load_end {eb : Nat} {d : Gp.Dr} {p : Pl} {q : Bu} {W : World} (h : Rg.Bk eb (EC d p q) 69 W) : (loadVar 29 ⟨eb, 0, none⟩).run Tryz.prog W = .ok (DV d p) W := by
  refine row_loadPart (cs := DC d p) Tryz.isAgg29 Tryz.sizeOf29 fun j v hj => ?_
  have e : (⟨eb, 0, none⟩ : Addr).add j = ⟨eb, j, none⟩ := by cases j <;> simp [Addr.add]
  rw [e, h.cell]
  have e2 : EC d p q = DC d p ++ [q.s, q.sb, q.c, q.cb] := rfl
  rw [e2, List.getElem?_append_left]
  · exact hj
  · rcases Nat.lt_or_ge j (DC d p).length with c | c
    · exact c
    · rw [List.getElem?_eq_none c] at hj; cases hj
theorem exec_load_row {P : Program} {ρ : Operand → Value} {o : Oper} {w : World} (t : TypeId) (x : Operand) (ho : o.op = .load t x) {B : Nat} (hx : ρ x = .pointer (some ⟨B, 0, none⟩)) {v : Value} (hrun : (loadVar t ⟨B, 0, none⟩).run P w = .ok v w) : (execOp ρ o).run P w = .ok (.value v) w := by
  simp [execOp, ho, hx, Instr.loadAt, Instr.sureAddr, hrun, Result.andThen]
theorem step_store_row {P : Program} {ops : Array Oper} {o : Oper} {a : Act} {w w' : World} {K : Act → World → Prop} {Q : Exit → Act → World → Prop} {E : Prop} (hg : o.guard = none) (x y : Operand) (t : TypeId)
    (ho : o.op = .store t x y) {R : Nat} (hx : a.eval x = .pointer (some ⟨R, 0, none⟩)) {v : Value} (hy : a.eval y = v) (hrun : (storeVar t ⟨R, 0, none⟩ v).run P w = .ok () w') (h : K (a.put o.dst undef) w') : if Region.wanted o (yielded ops a.tmps) = true then Oper.wp P o a w K Q else E := by
  have hw : Region.wanted o (yielded ops a.tmps) = true := by simp [Region.wanted, hg]
  rw [if_pos hw]
  unfold Oper.wp
  simp [execOp, ho, hx, hy, Instr.storeAt, Instr.sureAddr, hrun, Result.andThen, Oper.upon]
  exact h
theorem results_row3 {P : Program} {fn : Func} {tm tn tk : Tmp} {t : TypeId} (hf : fn.results = #[.cell tm t, .tmp tn, .tmp tk]) {tmps : Array Value} {R : Nat} (hp : tmps.getD tm undef = .pointer (some ⟨R, 0, none⟩)) {v u y : Value} {W : World} (hu : tmps.getD tn undef = u) (hy : tmps.getD tk undef = y) (hrun : (loadVar t ⟨R, 0, none⟩).run P W = .ok v W) : (results fn tmps).run P W = .ok (.tuple #[v, u, y]) W := by
  simp only [Array.getD_eq_getD_getElem?] at hp hu hy
  simp [results, hf, hp, hu, hy, asAddr, hrun]
/-- an end that is left: its drive is at rest; a block R of the call's own, made ahead of the end, may have turned -/
theorem EAt.rest {Kp : Nat → Prop} {base eb R : Nat} {W W' : World} {d : Gp.Dr} {p : Pl} {q : Bu} {S C : List UInt8} {CR : List Value} (h : EAt Kp base W eb d p q S C) (hq : d.queue.length ≤ 100000) (hK : ∀ b, base ≤ b → Kp b) (kR : Rg.Bk R CR 29 W) (hR2 : R < eb) (hk : ∀ k, k < W.heap.size → k ≠ eb → k ≠ R → q.sb.ownBlock ≠ some k → q.cb.ownBlock ≠ some k → W'.heap[k]? = W.heap[k]?) (hb : Below base W W') : DR Kp W' d p := by
  have key : ∀ {α : Type} {E : Rg.El α} {a : Option Addr} {l : List α}, TRow Kp E base eb [q.sb, q.cb, .slice p.t d.took.length p.tc] W a l → ERow E W' a l := fun {α E a l} h => by
    rcases h with h | ⟨b, o, h1, h2, h3, h4⟩
    · exact .inl h
    · refine .inr ⟨b, o, h1, Nat.lt_of_lt_of_le h2 hb.size, ?_⟩
      rcases h4 with h4 | ⟨h4, h5⟩
      · exact h3.below hb h4.1
      · exact h3.same (hk b h2 (by omega) (by omega) (h5 _ (by simp)) (h5 _ (by simp)))
  have key2 : ∀ {α : Type} {E : Rg.El α} {a : Option Addr} {l : List α}, TRow Kp E base eb [q.sb, q.cb, .slice p.t d.took.length p.tc] W a l → KRow Kp a l := fun {α E a l} h2 => by
    rcases h2 with h2 | ⟨b, o, h1, _, _, h4⟩
    · exact .inl h2
    · rcases h4 with h4 | ⟨h4, _⟩
      · exact .inr ⟨b, o, h1, h4.2⟩
      · exact .inr ⟨b, o, h1, hK b (Nat.le_of_lt (Nat.lt_of_le_of_lt h.new h4))⟩
  refine ⟨⟨key h.win, key h.ahead, key h.queue, ?_⟩, h.wcap, hq, key2 h.win, key2 h.ahead, key2 h.queue, ?_⟩
  rotate_left
  · rcases h.took.2 with ⟨e, e0⟩ | ⟨g, cap, cur, e, hbg, _⟩
    · exact .inl (List.eq_nil_of_length_eq_zero e0)
    · injection e with e1 e2 e3
      exact .inr ⟨g, 0, e1, hK g hbg⟩
  rcases h.took.2 with ⟨e, e0⟩ | ⟨g, cap, cur, e, hbg, hgg, hle, _, hcs, htk⟩
  · exact .inl (List.eq_nil_of_length_eq_zero e0)
  · injection e with e1 e2 e3
    refine .inr ⟨g, 0, e1, Nat.lt_of_lt_of_le (Array.getElem?_eq_some_iff.1 hgg).1 hb.size, fun t u ht => ?_⟩
    have hgk : W'.heap[g]? = W.heap[g]? := by
      refine hk g (Array.getElem?_eq_some_iff.1 hgg).1 (fun e => ?_) (fun e => ?_) (fun e => ?_) (fun e => ?_)
      · have k := h.bk
        unfold Rg.Bk at k
        rw [← e, hgg] at k
        cases k
      · unfold Rg.Bk at kR
        rw [← e, hgg] at kR
        cases kR
      · obtain ⟨c, fz, hT⟩ := Lib.ownsRowF_kind h.said.own g e
        rw [hgg] at hT
        cases hT
      · obtain ⟨c, fz, hT⟩ := Lib.ownsRowF_kind h.came.own g e
        rw [hgg] at hT
        cases hT
    rw [World.cell?_of_block (a := ⟨g, 0 + t, none⟩) hgk, Nat.zero_add, cell_of_row W g t cur _ _ hgg]
    rw [← htk, List.getElem?_take] at ht
    split at ht
    · simpa using ht
    · cases ht
/-- what String leaves of an end, and of the block for the result -/
theorem str_end {Kp : Nat → Prop} {base eb R : Nat} {w3 : World} {d : Gp.Dr} {p : Pl} {q : Bu} {S C : List UInt8} {CR : List Value} (h : EAt Kp base w3 eb d p q S C) (kR : Rg.Bk R CR 29 w3) :
    Calls Tryz.prog 44 #[.pointer (some ⟨eb, 18, none⟩)] w3.drew fun e w' => e = .returned (.string ⟨S.toArray⟩) ∧ Hid (Below base w3 w' ∧ ∀ k, k < w3.heap.size → q.sb.ownBlock ≠ some k → w'.heap[k]? = w3.heap[k]?) ∧ Hid (Rg.Bk eb (EC d p q) 69 w') ∧ Hid (Rg.Bk R CR 29 w') := by
  refine (Be.str base eb 18 q.sb S w3.drew (h.drew.bk.cell 19) h.drew.said).mono fun e w' ⟨h1, h2⟩ => ?_
  have hb : Below base w3 w' := (Below.drew (Below.refl _ _)).trans h2.bel
  exact ⟨h1, ⟨hb, fun k hk hne => h2.blk k hk hne⟩, h.bk.same (h2.blk eb h.bk.lt (h.said.ne h.bk (by decide))), kR.same (h2.blk R kR.lt (h.said.ne kR (by decide)))⟩
end Go.Proofs.YtomldoijcclhhaaGreat

namespace Go.Proofs.YtomldoijcclhhaaGreat
open Go.RowKit
theorem cat_bytes (a b : List UInt8) : (⟨a.toArray⟩ : ByteArray) ++ (⟨b.toArray⟩ : ByteArray) = ⟨(a ++ b).toArray⟩ := by
  apply ByteArray.ext
  simp [ByteArray.data_append]
end Go.Proofs.YtomldoijcclhhaaGreat

namespace Go.Proofs.YtomldoijcclhhaaGreat
open Go.RowKit
/-- where nothing lies -/
def Pl.none_ : Pl := ⟨none, 0, none, 0, none, 0, none, 0⟩
theorem DR.zero {Kp : Nat → Prop} (W : World) (lt : Int) (ca : Bool) (z ro : Int) : DR Kp W (Gp.begin_ lt ca z ro) Pl.none_ := ⟨⟨.inl rfl, .inl rfl, .inl rfl, .inl rfl⟩, Nat.le_refl _, Nat.zero_le _, .inl rfl, .inl rfl, .inl rfl, .inl rfl⟩
/-- what Begin hands back -/
def GBPost (Kp : Nat → Prop) (w : World) (d : Gp.Dr) (s : List UInt8) (e : Ending) (w' : World) : Prop := ∃ p', e = .returned (.tuple #[DV d p', .string ⟨s.toArray⟩, .int .i64 0]) ∧ DR Kp w' d p' ∧ Below w.heap.size w w'
set_option maxHeartbeats 4000000 in
set_option maxRecDepth 100000 in
theorem gbegin_yes {Kp : Nat → Prop} (lt : Int) (ca : Bool) (z ro : Int) (w : World) (h1 : lt = 103 ∨ lt = 71) (h2 : Gf.code z ≠ 0) (h3 : lt = 103 → z ≤ 64) (h4 : 1 ≤ ro) (h5 : ro ≤ 7) (hK : Hid (∀ b, w.heap.size ≤ b → Kp b)) :
    Calls Tryz.prog 21 #[.int .i64 lt, .bool ca, .int .i64 z, .int .i64 ro] w fun e w' => GBPost Kp w (Gp.begin_ lt ca z ro) (Gp.opening (Gp.begin_ lt ca z ro) 0) e w' := by
  have HM := Rg.hid (fun W => gmayBe_yes h1 h2 h3 h4 h5 W)
  have kR0 : Hid (Rg.Bk w.heap.size [.int .i64 0, .int .i64 0, .bool false, .int .i64 0, .int .i64 0, .int .i64 0, .int .i64 0, .int .i64 0, .int .i64 0, .slice none 0 0, .int .i64 0, .slice none 0 0, .string ⟨#[]⟩, .int .i64 0, .slice none 0 0, .int .i64 0, .int .i64 0, .slice none 0 0] 29 (w.alloc (.cells #[.int .i64 0, .int .i64 0, .bool false, .int .i64 0, .int .i64 0, .int .i64 0, .int .i64 0, .int .i64 0, .int .i64 0, .slice none 0 0, .int .i64 0, .slice none 0 0, .string ⟨#[]⟩, .int .i64 0, .slice none 0 0, .int .i64 0, .int .i64 0, .slice none 0 0] 29))) := Rg.Bk.new (by simp)
  have hb0 := Rg.hid (Rg.al1 w (.cells #[.int .i64 0, .int .i64 0, .bool false, .int .i64 0, .int .i64 0, .int .i64 0, .int .i64 0, .int .i64 0, .int .i64 0, .slice none 0 0, .int .i64 0, .slice none 0 0, .string ⟨#[]⟩, .int .i64 0, .slice none 0 0, .int .i64 0, .int .i64 0, .slice none 0 0] 29))
  have HO : Hid (∀ W eb, w.heap.size ≤ eb → Rg.Bk eb [.int .i64 lt, .int .i64 1, .bool ca, .int .i64 0, .int .i64 z, .int .i64 ro, .int .i64 0, .int .i64 0, .int .i64 0, .slice none 0 0, .int .i64 1, .slice none 0 0, .string ⟨#[]⟩, .int .i64 0, .slice none 0 0, .int .i64 0, .int .i64 0, .slice none 0 0, .pointer none, .slice none 0 0, .pointer none, .slice none 0 0] 69 W → Below w.heap.size w W → Calls Tryz.prog 43 #[.pointer (some ⟨eb, 0, none⟩), .int .i64 0] W fun e w' => e = .returned (.tuple #[]) ∧ Hid (∃ p1 q1, EAt Kp w.heap.size w' eb (Gp.begin_ lt ca z ro) p1 q1 (Gp.opening (Gp.begin_ lt ca z ro) 0) []) ∧ Hid (Fr w.heap.size eb W w')) := fun W eb hn k hb => by
    have hE := (DR.zero (Kp := Kp) w lt ca z ro).end_ hb k hn
    exact (sayOpening_any hE 0 (Int.le_refl _) (by decide) h2 h4 h5 (by simp)).mono fun e w' hp => hp
  obtain ⟨d1, hd1⟩ : ∃ d1, d1 = Gp.begin_ lt ca z ro := ⟨_, rfl⟩
  obtain ⟨so, hso⟩ : ∃ so, so = Gp.opening (Gp.begin_ lt ca z ro) 0 := ⟨_, rfl⟩
  have hqr : Hid (d1.queue.length ≤ 100000) := by rw [hd1]; exact Nat.zero_le _
  rw [← hso, ← hd1] at HO ⊢
  replace hd1 := Rg.hid hd1
  replace hso := Rg.hid hso
  clear h1 h2 h3 h4 h5
  go_enter Tryz.func21, Tryz.ntmps21
  go_upto_region 1 with fail
  generalize World.alloc _ _ = w1 at *
  obtain ⟨R, hR⟩ : ∃ R, R = w.heap.size := ⟨_, rfl⟩
  rw [← hR] at kR0 ⊢
  have hRw : Hid (w.heap.size ≤ R) := by show _ ≤ _; omega
  replace hR := Rg.hid hR
  have kE0 : Hid (Rg.Bk w1.heap.size [.int .i64 lt, .int .i64 1, .bool ca, .int .i64 0, .int .i64 z, .int .i64 ro, .int .i64 0, .int .i64 0, .int .i64 0, .slice none 0 0, .int .i64 1, .slice none 0 0, .string ⟨#[]⟩, .int .i64 0, .slice none 0 0, .int .i64 0, .int .i64 0, .slice none 0 0, .pointer none, .slice none 0 0, .pointer none, .slice none 0 0] 69 (w1.alloc (.cells #[.int .i64 lt, .int .i64 1, .bool ca, .int .i64 0, .int .i64 z, .int .i64 ro, .int .i64 0, .int .i64 0, .int .i64 0, .slice none 0 0, .int .i64 1, .slice none 0 0, .string ⟨#[]⟩, .int .i64 0, .slice none 0 0, .int .i64 0, .int .i64 0, .slice none 0 0, .pointer none, .slice none 0 0, .pointer none, .slice none 0 0] 69))) := Rg.Bk.new rfl
  have b2 := Rg.hid (Rg.al1 w1 (.cells #[.int .i64 lt, .int .i64 1, .bool ca, .int .i64 0, .int .i64 z, .int .i64 ro, .int .i64 0, .int .i64 0, .int .i64 0, .slice none 0 0, .int .i64 1, .slice none 0 0, .string ⟨#[]⟩, .int .i64 0, .slice none 0 0, .int .i64 0, .int .i64 0, .slice none 0 0, .pointer none, .slice none 0 0, .pointer none, .slice none 0 0] 69))
  go_upto_region 4 with (go_at_call 42; refine (HM.out _).mono ?_; rintro e w2 ⟨rfl, hw⟩; obtain rfl := hw.symm)
  generalize World.alloc _ _ = w2 at *
  have hb2 := Rg.hid (Rg.chain hb0.out b2.out)
  have kR2 := Rg.hid (kR0.out.below b2.out kR0.out.lt)
  obtain ⟨eb, heb⟩ : ∃ eb, eb = w1.heap.size := ⟨_, rfl⟩
  rw [← heb] at kE0 ⊢
  have hRe : Hid (R < eb) := by show _ < _; rw [heb]; exact kR0.out.lt
  have hle : w.heap.size ≤ eb := by rw [heb]; exact hb0.out.size
  replace heb := Rg.hid heb
  have hRe2 : Hid (eb ≠ R) := fun e => by have := hRe.out; omega
  have HO1 := Rg.hid (HO.out w2 eb hle kE0.out hb2.out)
  clear HO kE0 b2 hle HM hb0 kR0
  go_upto_region 5 with (go_at_call 43; refine HO1.out.mono ?_; rintro e w3 ⟨rfl, hq, hf⟩)
  obtain ⟨p1, q1, hE⟩ := hq.out
  replace hE := Rg.hid hE
  have kR3 := Rg.hid (hf.out.bk kR2.out (fun e => hRe2.out e.symm) (by decide))
  have hb4 := Rg.hid (hb2.out.trans hf.out.bel)
  have HStr := Rg.hid (str_end hE.out kR3.out)
  clear HO1 hq hf hb2 kR2
  refine wp_region_held_drew (S := (fun (w' : World) => Rg.Bk eb (EC d1 p1 q1) 69 w')) (by kernel_rfl) ?_ (fun hH0 => ?_)
  · exact hE.out.bk
  refine wpAnyH_take (i := 0) (oi := { dst := some 27, op := _, type := _, pos := _, after := _, guard := _ }) (v := ?_) rfl (by kernel_rfl) (by kernel_rfl) (by kernel_rfl) (fun _ _ _ h => h) (Or.inl ⟨by rfl, ?_⟩) (by assumption) ?_
  rotate_left
  · (intro w hSw; clear hSw; go_simp); (try with_reducible rfl)
  simp only [Act.put, List.setIfInBounds_toArray, List.set_cons_zero, List.set_cons_succ]
  refine wpAnyH_take (i := 1) (oi := { dst := some 28, op := _, type := _, pos := _, after := _, guard := _ }) (v := ?_) rfl (by kernel_rfl) (by kernel_rfl) (by kernel_rfl) (fun _ _ _ h => h) (Or.inl ⟨by rfl, ?_⟩) (by assumption) ?_
  rotate_left
  · (intro w hSw; clear hSw; go_simp); (try with_reducible rfl)
  simp only [Act.put, List.setIfInBounds_toArray, List.set_cons_zero, List.set_cons_succ]
  refine wpAnyH_take (i := 2) (oi := { dst := some 29, op := _, type := _, pos := _, after := _, guard := _ }) (v := ?_) rfl (by kernel_rfl) (by kernel_rfl) (by kernel_rfl) (fun _ _ _ h => h) (Or.inl ⟨by rfl, ?_⟩) (by assumption) ?_
  rotate_left
  · (intro w hSw; clear hSw; go_simp); (try with_reducible rfl)
  simp only [Act.put, List.setIfInBounds_toArray, List.set_cons_zero, List.set_cons_succ]
  refine wpAnyH_take (i := 3) (oi := { dst := some 30, op := _, type := _, pos := _, after := _, guard := _ }) (v := DV d1 p1) rfl (by kernel_rfl) (by kernel_rfl) (by kernel_rfl) (fun _ _ _ h => h) (Or.inl ⟨by rfl, fun w hSw => exec_load_row _ _ rfl rfl (load_end hSw)⟩) (by assumption) ?_
  simp only [Act.put, List.setIfInBounds_toArray, List.set_cons_zero, List.set_cons_succ]
  refine wpAnyH_take (i := 4) (oi := { dst := some 31, op := _, type := _, pos := _, after := _, guard := _ }) (v := ?_) rfl (by kernel_rfl) (by kernel_rfl) (by kernel_rfl) (fun _ _ _ h => h) (Or.inl ⟨by rfl, ?_⟩) (by assumption) ?_
  rotate_left
  · (intro w hSw; clear hSw; go_simp); (try with_reducible rfl)
  simp only [Act.put, List.setIfInBounds_toArray, List.set_cons_zero, List.set_cons_succ]
  refine wpAnyH_take (i := 5) (oi := { dst := some 32, op := _, type := _, pos := _, after := _, guard := _ }) (v := ?_) rfl (by kernel_rfl) (by kernel_rfl) (by kernel_rfl) (fun _ _ _ h => h) (Or.inl ⟨by rfl, ?_⟩) (by assumption) ?_
  rotate_left
  · (intro w hSw; clear hSw; go_simp); (try with_reducible rfl)
  simp only [Act.put, List.setIfInBounds_toArray, List.set_cons_zero, List.set_cons_succ]
  refine wpAnyH_take (i := 6) (oi := { dst := some 33, op := _, type := _, pos := _, after := _, guard := _ }) (v := ?_) rfl (by kernel_rfl) (by kernel_rfl) (by kernel_rfl) (fun _ _ _ h => h) (Or.inl ⟨by rfl, ?_⟩) (by assumption) ?_
  rotate_left
  · (intro w hSw; clear hSw; go_simp); (try with_reducible rfl)
  simp only [Act.put, List.setIfInBounds_toArray, List.set_cons_zero, List.set_cons_succ]
  refine wpAnyH_ready (rs := [7]) (by kernel_rfl) (by simp) ?_
  refine AllReadyH.cons (o := { dst := some 34, op := _, type := _, pos := _, after := _, guard := _ }) rfl (fun K hK => ?_) AllReadyH.nil
  go_simp
  go_at_call 44; refine HStr.out.mono ?_; rintro e w5 ⟨rfl, hb5, kE5, kR5⟩
  refine hK.out _ _ ?_ (fun hH7 => ?_)
  · exact kE5.out
  clear hK K hH0
  try simp only [Act.put, List.setIfInBounds_toArray, List.set_cons_zero, List.set_cons_succ]
  obtain ⟨w6, hst, kR6, oR6⟩ := Rg.row_storeVar (P := Tryz.prog) (t := 29) (CS := (DC d1 p1).toArray) kR5.out infoDr2 rfl (by simp [DC, Value.oneCell'])
  replace hst : Hid ((storeVar 29 ⟨R, 0, none⟩ (DV d1 p1)).run Tryz.prog w5 = .ok () w6) := hst
  have kE6 : Hid (Rg.Bk eb (EC d1 p1 q1) 69 w6) := kE5.out.same (oR6.block eb hRe2.out)
  refine wpAnyH_ready (rs := [8]) (by kernel_rfl) (by simp) ?_
  refine AllReadyH.cons (o := { dst := none, op := _, type := _, pos := _, after := _, guard := _ }) rfl (fun K hK => ?_) AllReadyH.nil
  refine step_store_row (by rfl) (.tmp 8) (.tmp 30) 29 (by rfl) (by rfl) (by rfl) hst.out ?_
  refine hK.out _ _ ?_ (fun hH8 => ?_)
  · exact kE6.out
  clear hK K hH7
  simp only [Act.put]
  refine wpAnyH_take (i := 9) (oi := { dst := some 9, op := _, type := _, pos := _, after := _, guard := _ }) (v := ?_) rfl (by kernel_rfl) (by kernel_rfl) (by kernel_rfl) (fun _ _ _ h => h) (Or.inl ⟨by rfl, ?_⟩) (by assumption) ?_
  rotate_left
  · (intro w hSw; clear hSw; go_simp); (try with_reducible rfl)
  simp only [Act.put, List.setIfInBounds_toArray, List.set_cons_zero, List.set_cons_succ]
  refine wpAnyH_take (i := 10) (oi := { dst := some 10, op := _, type := _, pos := _, after := _, guard := _ }) (v := ?_) rfl (by kernel_rfl) (by kernel_rfl) (by kernel_rfl) (fun _ _ _ h => h) (Or.inl ⟨by rfl, ?_⟩) (by assumption) ?_
  rotate_left
  · (intro w hSw; clear hSw; go_simp); (try with_reducible rfl)
  simp only [Act.put, List.setIfInBounds_toArray, List.set_cons_zero, List.set_cons_succ]
  refine wpAnyH_done (by kernel_rfl) ?_ _
  have hfin : DR Kp w6 d1 p1 := hE.out.rest hqr.out hK.out kR3.out hRe.out (fun k hk h1 h2 h3 _ => by rw [oR6.block k h2]; exact hb5.out.2 k hk h3) (hb5.out.1.trans (oR6.bel hRw.out))
  have hbel : Below w.heap.size w w6 := (hb4.out.trans hb5.out.1).trans (oR6.bel hRw.out)
  have hres : (loadVar 29 ⟨R, 0, none⟩).run Tryz.prog w6 = .ok (DV d1 p1) w6 := Rg.row_loadVar (P := Tryz.prog) (t := 29) (CS := (DC d1 p1).toArray) kR6 Tryz.underlying29 rfl infoDr2
  have hfe : GBPost Kp w d1 so (.returned (.tuple #[DV d1 p1, .string ⟨so.toArray⟩, .int .i64 0])) w6 := ⟨p1, rfl, hfin, hbel⟩
  clear hfin hbel hE HStr hb5 kE5 kR5 oR6 kE6 kR6 hst hb4 kR3 hH8
  go_wp2
  exact bodyPost_ret (v := .tuple #[DV d1 p1, .string ⟨so.toArray⟩, .int .i64 0]) (results_row3 rfl rfl rfl rfl hres) rfl hfe
end Go.Proofs.YtomldoijcclhhaaGreat

namespace Go.Proofs.YtomldoijcclhhaaGreat
open Go.RowKit
/-- a drive, by its cells -/
def DH (Kp : Nat → Prop) (W : World) (d : Gp.Dr) (CS : Array Value) : Prop := ∃ p, CS = (DC d p).toArray ∧ DR Kp W d p
theorem DH.below {Kp : Nat → Prop} {W W' : World} {d : Gp.Dr} {CS : Array Value} (h : DH Kp W d CS) (hb : Below W.heap.size W W') : DH Kp W' d CS := by
  obtain ⟨p, e, h⟩ := h
  exact ⟨p, e, h.below hb⟩
theorem DH.info {Kp : Nat → Prop} {W : World} {d : Gp.Dr} {CS : Array Value} (h : DH Kp W d CS) : (Tryz.prog.info? 29).map (·.size) = some CS.size := by
  obtain ⟨p, e, _⟩ := h
  rw [e]
  exact infoDr2
theorem DH.size {Kp : Nat → Prop} {W : World} {d : Gp.Dr} {CS : Array Value} (h : DH Kp W d CS) : CS.size = 18 := by
  obtain ⟨p, e, _⟩ := h
  rw [e]
  rfl
theorem DH.one {Kp : Nat → Prop} {W : World} {d : Gp.Dr} {CS : Array Value} (h : DH Kp W d CS) : CS.all (·.oneCell') = true := by
  obtain ⟨p, e, _⟩ := h
  rw [e]
  simp [DC, Value.oneCell']
/-- a drive without lists, whatever is told of old blocks -/
theorem DH.any {Kp Kq : Nat → Prop} {W : World} {d : Gp.Dr} {CS : Array Value} (h : DH Kp W d CS) (h1 : d.win.l = []) (h2 : d.ahead = []) (h3 : d.queue = []) (h4 : d.took = []) : DH Kq W d CS := by
  obtain ⟨p, e, h⟩ := h
  exact ⟨p, e, h.at_, h.wcap, h.ql, .inl h1, .inl h2, .inl h3, .inl h4⟩
theorem erow_only {Kp : Nat → Prop} {α : Type} {E : Rg.El α} {B : Nat} {W W' : World} {a : Option Addr} {l : List α} (h : ERow E W a l) (k : KRow Kp a l) (hn : ¬ Kp B) (o : Rg.Only B W W') : ERow E W' a l := by
  rcases h with h | ⟨b, i, h1, h2, h3⟩
  · exact .inl h
  · rcases k with k | ⟨b', i', k1, k2⟩
    · exact .inl k
    · rw [h1] at k1
      cases k1
      exact .inr ⟨b, i, h1, by rw [o.size]; exact h2, h3.same (o.block b (fun e => hn (e ▸ k2)))⟩
theorem DH.only {Kp : Nat → Prop} {B : Nat} {W W' : World} {d : Gp.Dr} {CS : Array Value} (h : DH Kp W d CS) (hn : ¬ Kp B) (o : Rg.Only B W W') : DH Kp W' d CS := by
  obtain ⟨p, e, h⟩ := h
  exact ⟨p, e, ⟨erow_only h.at_.win h.kw hn o, erow_only h.at_.ahead h.ka hn o, erow_only h.at_.queue h.kq hn o, erow_only h.at_.took h.kt hn o⟩, h.wcap, h.ql, h.kw, h.ka, h.kq, h.kt⟩
/-- a drive's block -/
theorem DH.load {Kp : Nat → Prop} {W W2 : World} {B : Nat} {d : Gp.Dr} {CS : Array Value} (h : DH Kp W d CS) (k : Rg.Bk B CS.toList 29 W2) : (loadVar 29 ⟨B, 0, none⟩).run Tryz.prog W2 = .ok (.agg CS) W2 := Rg.row_loadVar (P := Tryz.prog) (t := 29) (CS := CS) k Tryz.underlying29 rfl h.info
/-- a new block for a drive -/
theorem DH.box {Kp : Nat → Prop} {W : World} {d : Gp.Dr} {CS : Array Value} (h : DH Kp W d CS) : ∃ W', Hid ((storeVar 29 ⟨W.heap.size, 0, none⟩ (.agg CS)).run Tryz.prog (W.alloc (.cells #[.int .i64 0, .int .i64 0, .bool false, .int .i64 0, .int .i64 0, .int .i64 0, .int .i64 0, .int .i64 0, .int .i64 0, .slice none 0 0, .int .i64 0, .slice none 0 0, .string ⟨#[]⟩, .int .i64 0, .slice none 0 0, .int .i64 0, .int .i64 0, .slice none 0 0] 29)) = .ok () W') ∧ Hid (Rg.Bk W.heap.size CS.toList 29 W') ∧ Hid (Below W.heap.size W W') ∧ Hid (DH Kp W' d CS) := by
  have k : Rg.Bk W.heap.size [.int .i64 0, .int .i64 0, .bool false, .int .i64 0, .int .i64 0, .int .i64 0, .int .i64 0, .int .i64 0, .int .i64 0, .slice none 0 0, .int .i64 0, .slice none 0 0, .string ⟨#[]⟩, .int .i64 0, .slice none 0 0, .int .i64 0, .int .i64 0, .slice none 0 0] 29 (W.alloc (.cells #[.int .i64 0, .int .i64 0, .bool false, .int .i64 0, .int .i64 0, .int .i64 0, .int .i64 0, .int .i64 0, .int .i64 0, .slice none 0 0, .int .i64 0, .slice none 0 0, .string ⟨#[]⟩, .int .i64 0, .slice none 0 0, .int .i64 0, .int .i64 0, .slice none 0 0] 29)) := Rg.Bk.new rfl
  obtain ⟨W', h1, h2, h3⟩ := Rg.row_storeVar (P := Tryz.prog) (t := 29) (CS := CS) k h.info (by rw [h.size]; rfl) h.one
  have hb : Below W.heap.size W W' := (Rg.al1 _ _).trans (h3.bel (Nat.le_refl _))
  exact ⟨W', h1, h2, hb, h.below hb⟩
/-- a drive laid over another one -/
theorem DH.over {Kp Kq : Nat → Prop} {W W0 : World} {B : Nat} {d d0 : Gp.Dr} {CS C0 : Array Value} (h : DH Kp W d CS) (h0 : DH Kq W0 d0 C0) (k : Rg.Bk B C0.toList 29 W) : ∃ W', Hid ((storeVar 29 ⟨B, 0, none⟩ (.agg CS)).run Tryz.prog W = .ok () W') ∧ Hid (Rg.Bk B CS.toList 29 W') ∧ Hid (Rg.Only B W W') := by
  obtain ⟨W', h1, h2, h3⟩ := Rg.row_storeVar (P := Tryz.prog) (t := 29) (CS := CS) k h.info (by rw [h.size, Array.length_toList, h0.size]) h.one
  exact ⟨W', h1, h2, h3⟩
end Go.Proofs.YtomldoijcclhhaaGreat
