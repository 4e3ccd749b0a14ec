/-
  Walks of layer 16: takeClose, acknowledge. Walks of layer 16: all of the window is said. Walks of layer 16: tickRunning, tick. Walks of layer 16: what Right asks, of a drive that is right: isIn, mayBe, mayWait, the pieces, the texts. Walks of layer 16: the lists of a drive that is right, and Right. Walks of layer 16: through. Walks of layer 16: a drive loaded out of an end, and what String leaves. Walks of layer 16: an end that is left is a drive at rest. Walks of layer 16: sendWaiting. Bitwise or, and, xor on int where both sides are not negative; bytes put together. Plain, of no program. Walks of layer 16: agree, takeSync, takeNak. Walks of layer 16: what came grows; come. Walks of layer 16: slices.Insert of a packet among those that came early. Mathematics of layer 16: where a packet that came early is put among the others. Walks of layer 16: what came early is one's own; keep.
-/
import Derived.Test.YtomldoijcclhhaaGreatSkAW
import Derived.BigQuiet
import Derived.Test.YtomldoijcclhhaaGreatSkAL
import Derived.Test.YtomldoijcclhhaaGreatSkAC
import Derived.WalkKit
import Derived.Lib.Overlaps
import Derived.Lib.AppendZerosOnto
import Derived.ArgAppend
import Derived.Test.YtomldoijcclhhaaGreatSkAT
namespace Go.Proofs.YtomldoijcclhhaaGreat
open Go.RowKit
theorem IPost.id {Kp : Nat → Prop} {W : World} {eb : Nat} {d : Gp.Dr} {p : Pl} {q : Qv} {S : List UInt8} {C : List Gp.Pc} {F : Nat} {args : Array Value} (h : IAt Kp W eb d p q S C) (hc : Calls Tryz.prog F args W fun e w' => e = .returned (.tuple #[]) ∧ w' = W) : Calls Tryz.prog F args W fun e w' => IPost Kp eb W d (S ++ []) C e w' := hc.mono fun e w' ⟨h1, h2⟩ => by
  subst h2
  rw [List.append_nil]
  exact ⟨h1, ⟨p, q, h⟩, Below.refl _ _⟩
end Go.Proofs.YtomldoijcclhhaaGreat

namespace Go.Proofs.YtomldoijcclhhaaGreat
open Go.RowKit
theorem ipacket_len {d : Gp.Dr} {n : Int} {s : ByteArray} (hz : d.size ≤ 4095) (hs : Ip.okText d.size s) : (Ip.packet d n s).length ≤ 4200 := by
  unfold Ip.packet Ip.pk
  rw [If.text_len]
  have h1 := hs.2.1
  have h2 : s.data.toList.tail.length = s.size - 1 := by rw [List.length_tail, Array.length_toList]; rfl
  have := If.bsz_le s.data.toList.tail.length
  show 6 + If.bsz s.data.toList.tail.length ≤ 4200
  omega
/-- what a round of sayWindow finds -/
structure IW (Kp : Nat → Prop) (eb : Nat) (d : Gp.Dr) (p : Pl) (ag : Option Nat) (cv : Value) (S : List UInt8) (C : List Gp.Pc) (w2 : World) (i : Nat) (wr : World) (Si : List UInt8) : Prop where
  es : ∃ s sb, IAt Kp wr eb d p ⟨s, sb, cv, ag⟩ Si C
  fr : Fr eb eb w2 wr
  out : Si ++ Ip.allFrom d (d.win.l.drop i) i = S ++ Ip.all d
  len : Si.length ≤ S.length + 4200 * i
end Go.Proofs.YtomldoijcclhhaaGreat

namespace Go.Proofs.YtomldoijcclhhaaGreat
open Go.RowKit
theorem IAt.drewN {Kp : Nat → Prop} {W : World} {eb : Nat} {d : Gp.Dr} {p : Pl} {q : Qv} {S : List UInt8} {C : List Gp.Pc} (h : IAt Kp W eb d p q S C) (n : Nat) : IAt Kp (W.drewN n) eb d p q S C := h.below (Rg.drewN (Below.refl _ _) n)
theorem IPost.go {Kp : Nat → Prop} {eb : Nat} {W W1 : World} {d : Gp.Dr} {p : Pl} {ag : Option Nat} {cv : Value} {S : List UInt8} {C : List Gp.Pc} {F : Nat} {args : Array Value} (f : Below eb W W1) (h : Calls Tryz.prog F args W1 fun e w' => IPostP Kp eb W1 d p ag cv S C e w') : Calls Tryz.prog F args W1 fun e w' => e = .returned (.tuple #[]) ∧ IPost Kp eb W d S C (.returned (.tuple #[])) w' := h.mono fun _ _ hp => ⟨hp.1, rfl, hp.is.2.1, f.trans hp.is.2.2⟩
end Go.Proofs.YtomldoijcclhhaaGreat

namespace Go.Proofs.YtomldoijcclhhaaGreat
open Go.RowKit
set_option maxHeartbeats 1000000 in
theorem iisIn_yes (n a b : Int) (w : World) (h1 : decide (a ≤ n) = true) (h2 : decide (n ≤ b) = true) : Calls Tryz.prog 76 #[.int .i64 n, .int .i64 a, .int .i64 b] w fun e w' => e = .returned (.bool true) ∧ w' = w := by
  go_enter Tryz.func76, Tryz.ntmps76
  go_wp2
  go_ret
  exact ⟨rfl, rfl⟩
theorem iisIn_true {n a b : Int} (h1 : a ≤ n) (h2 : n ≤ b) (w : World) : Calls Tryz.prog 76 #[.int .i64 n, .int .i64 a, .int .i64 b] w fun e w' => e = .returned (.bool true) ∧ w' = w := iisIn_yes n a b w (by simpa using h1) (by simpa using h2)
set_option maxHeartbeats 1000000 in
set_option maxRecDepth 100000 in
theorem imayBe_go (z r : Int) (w : World) (HZ : Hid (∀ W, Calls Tryz.prog 76 #[.int .i64 z, .int .i64 1, .int .i64 4095] W fun e w' => e = .returned (.bool true) ∧ w' = W)) (HR : Hid (∀ W, Calls Tryz.prog 76 #[.int .i64 r, .int .i64 1, .int .i64 16] W fun e w' => e = .returned (.bool true) ∧ w' = W)) :
    Calls Tryz.prog 73 #[.int .i64 z, .int .i64 r] w fun e w' => e = .returned (.bool true) ∧ w' = w := by
  go_enter Tryz.func73, Tryz.ntmps73
  go_wp2_with (go_at_call 76; (first | with_reducible refine (HZ.out _).mono ?_ | with_reducible refine (HR.out _).mono ?_); rintro e w1 ⟨rfl, hw⟩; obtain rfl := hw.symm)
  go_ret
  exact ⟨rfl, rfl⟩
theorem imayBe_yes {z r : Int} (h1 : 1 ≤ z ∧ z ≤ 4095) (h2 : 1 ≤ r ∧ r ≤ 16) (w : World) : Calls Tryz.prog 73 #[.int .i64 z, .int .i64 r] w fun e w' => e = .returned (.bool true) ∧ w' = w := imayBe_go z r w (iisIn_true h1.1 h1.2) (iisIn_true h2.1 h2.2)
theorem ne_nil {D : ByteArray} (h : D.size ≠ 0) : (D.toList == []) = false := by
  rw [beq_eq_false_iff_ne]
  intro e
  apply h
  have := congrArg List.length e
  rw [ByteArray.toList_eq] at this
  simpa using this
end Go.Proofs.YtomldoijcclhhaaGreat

namespace Go.Proofs.YtomldoijcclhhaaGreat
open Go.RowKit
theorem iinfoDr2 : (Tryz.prog.info? 29).map (·.size) = some 18 := by kernel_rfl
end Go.Proofs.YtomldoijcclhhaaGreat

namespace Go.Proofs.YtomldoijcclhhaaGreat
open Go.RowKit
/-- where a row may lie -/
def iKRow (Kp : Nat → Prop) {α : Type} (a : Option Addr) (l : List α) : Prop := l = [] ∨ ∃ b o, a = some ⟨b, o, none⟩ ∧ Kp b
theorem itrow_old {Kp : Nat → Prop} {α : Type} {E : Rg.El α} {eb : Nat} {vs : List Value} {w W : World} {a : Option Addr} {l : List α} (h : ERow E w a l) (hk : iKRow Kp a l) (hb : Below w.heap.size w W) (hn : w.heap.size ≤ eb) : TRow Kp E eb eb vs W a l := by
  rcases h with h | ⟨b, o, h1, h2, h3⟩
  · exact .inl h
  · rcases hk with hk | ⟨b', o', k1, k2⟩
    · exact .inl hk
    · rw [h1] at k1
      cases k1
      exact .inr ⟨b, o, h1, Nat.lt_of_lt_of_le h2 hb.size, h3.below hb h2, .inl ⟨Nat.lt_of_lt_of_le h2 hn, k2⟩⟩
/-- a drive of i at rest: its rows, and that its lists have room -/
structure IDR (Kp : Nat → Prop) (W : World) (d : Gp.Dr) (p : Pl) : Prop where
  at_ : DAt W d p
  wcap : d.win.l.length ≤ p.wc
  acap : d.ahead.length ≤ p.ac
  ql : d.queue.length ≤ 100000
  wl : d.win.l.length ≤ 100000
  kw : iKRow Kp p.w d.win.l
  ka : iKRow Kp p.a d.ahead
  kq : iKRow Kp p.q d.queue
  kt : iKRow Kp p.t d.took
theorem IDR.below {Kp : Nat → Prop} {W W' : World} {d : Gp.Dr} {p : Pl} (h : IDR Kp W d p) (hb : Below W.heap.size W W') : IDR Kp W' d p := ⟨h.at_.below hb, h.wcap, h.acap, h.ql, h.wl, h.kw, h.ka, h.kq, h.kt⟩
/-- a drive where nothing was taken -/
def iown (p : Pl) : Pl := { p with t := none, tc := 0 }
theorem IDR.end_ {Kp : Nat → Prop} {w W : World} {d : Gp.Dr} {p : Pl} {eb : Nat} (h : IDR Kp w d p) (hb : Below w.heap.size w W) (k : Rg.Bk eb [.int .i64 d.letter, .int .i64 d.phase, .bool d.caller, .int .i64 d.step, .int .i64 d.size, .int .i64 d.room, .int .i64 d.win.md, .int .i64 d.win.sz, .int .i64 d.win.bs, .slice p.w d.win.l.length p.wc, .int .i64 d.wants, .slice p.a d.ahead.length p.ac, .string ⟨d.buf.toArray⟩, .int .i64 d.at_, .slice p.q d.queue.length p.qc, .int .i64 d.wait, .int .i64 d.tries, .slice none 0 0, .pointer none, .slice none 0 0, .slice none 0 0] 81 W) (hn : w.heap.size ≤ eb) : IAt Kp W eb (Gp.own d) (iown p) ⟨.pointer none, .slice none 0 0, .slice none 0 0, none⟩ [] [] :=
  ⟨k, itrow_old h.at_.win h.kw hb hn, h.wcap, .inl ⟨rfl, itrow_old h.at_.ahead h.ka hb hn⟩, h.acap, itrow_old h.at_.queue h.kq hb hn, World.ownsRow_nil _ _ _ _, .inl rfl, BAt.start _ _, World.ownsRow_nil _ _ _ _⟩
end Go.Proofs.YtomldoijcclhhaaGreat

namespace Go.Proofs.YtomldoijcclhhaaGreat
open Go.RowKit
theorem irow_loadPart {t : TypeId} {a : Addr} {W : World} {cs : List Value} (ha : ∀ w, (isAgg t).run Tryz.prog w = .ok true w) (hs : ∀ w, (sizeOf t).run Tryz.prog w = .ok cs.length w) (h : ∀ j v, cs[j]? = some v → W.cell? (a.add j) = some v) : (loadVar t a).run Tryz.prog W = .ok (.agg cs.toArray) W := by
  have hl := run_loadCells_list (P := Tryz.prog) W a cs h
  simp [loadVar, ha, hs, hl]
theorem iload_end {eb : Nat} {d : Gp.Dr} {p : Pl} {q : Qv} {W : World} (h : Rg.Bk eb (IC d p q) 81 W) : (loadVar 29 ⟨eb, 0, none⟩).run Tryz.prog W = .ok (DV d p) W := by
  refine irow_loadPart (cs := DC d p) Tryz.isAgg29 Tryz.sizeOf29 fun j v hj => ?_
  have e : (⟨eb, 0, none⟩ : Addr).add j = ⟨eb, j, none⟩ := by cases j <;> simp [Addr.add]
  rw [e, h.cell]
  have e2 : IC d p q = DC d p ++ [q.s, q.sb, q.cv] := rfl
  rw [e2, List.getElem?_append_left]
  · exact hj
  · rcases Nat.lt_or_ge j (DC d p).length with c | c
    · exact c
    · rw [List.getElem?_eq_none c] at hj; cases hj
theorem iexec_load_row {P : Program} {ρ : Operand → Value} {o : Oper} {w : World} (t : TypeId) (x : Operand) (ho : o.op = .load t x) {B : Nat} (hx : ρ x = .pointer (some ⟨B, 0, none⟩)) {v : Value} (hrun : (loadVar t ⟨B, 0, none⟩).run P w = .ok v w) : (execOp ρ o).run P w = .ok (.value v) w := by
  simp [execOp, ho, hx, Instr.loadAt, Instr.sureAddr, hrun, Result.andThen]
theorem istep_store_row {P : Program} {ops : Array Oper} {o : Oper} {a : Act} {w w' : World} {K : Act → World → Prop} {Q : Exit → Act → World → Prop} {E : Prop} (hg : o.guard = none) (x y : Operand) (t : TypeId)
    (ho : o.op = .store t x y) {R : Nat} (hx : a.eval x = .pointer (some ⟨R, 0, none⟩)) {v : Value} (hy : a.eval y = v) (hrun : (storeVar t ⟨R, 0, none⟩ v).run P w = .ok () w') (h : K (a.put o.dst undef) w') : if Region.wanted o (yielded ops a.tmps) = true then Oper.wp P o a w K Q else E := by
  have hw : Region.wanted o (yielded ops a.tmps) = true := by simp [Region.wanted, hg]
  rw [if_pos hw]
  unfold Oper.wp
  simp [execOp, ho, hx, hy, Instr.storeAt, Instr.sureAddr, hrun, Result.andThen, Oper.upon]
  exact h
theorem iresults_row3 {P : Program} {fn : Func} {tm tn tk : Tmp} {t : TypeId} (hf : fn.results = #[.cell tm t, .tmp tn, .tmp tk]) {tmps : Array Value} {R : Nat} (hp : tmps.getD tm undef = .pointer (some ⟨R, 0, none⟩)) {v u y : Value} {W : World} (hu : tmps.getD tn undef = u) (hy : tmps.getD tk undef = y) (hrun : (loadVar t ⟨R, 0, none⟩).run P W = .ok v W) : (results fn tmps).run P W = .ok (.tuple #[v, u, y]) W := by
  simp only [Array.getD_eq_getD_getElem?] at hp hu hy
  simp [results, hf, hp, hu, hy, asAddr, hrun]
/-- what String leaves of an end, and of the block for the result -/
theorem istr_end {Kp : Nat → Prop} {eb R : Nat} {w3 : World} {d : Gp.Dr} {p : Pl} {q : Qv} {S : List UInt8} {C : List Gp.Pc} {CR : List Value} (h : IAt Kp w3 eb d p q S C) (kR : Rg.Bk R CR 29 w3) :
    Calls Tryz.prog 44 #[.pointer (some ⟨eb, 18, none⟩)] w3.drew fun e w' => e = .returned (.string ⟨S.toArray⟩) ∧ Hid (Below eb w3 w' ∧ ∀ k, k < w3.heap.size → q.sb.ownBlock ≠ some k → w'.heap[k]? = w3.heap[k]?) ∧ Hid (Rg.Bk eb (IC d p q) 81 w') ∧ Hid (Rg.Bk R CR 29 w') := by
  refine (Bi.str eb eb 18 q.sb S w3.drew (h.drew.bk.cell 19) h.drew.said).mono fun e w' ⟨h1, h2⟩ => ?_
  have hb : Below eb w3 w' := (Below.drew (Below.refl _ _)).trans h2.bel
  exact ⟨h1, ⟨hb, fun k hk hne => h2.blk k hk hne⟩, h.bk.same (h2.blk eb h.bk.lt (h.said.ne h.bk (by decide))), kR.same (h2.blk R kR.lt (h.said.ne kR (by decide)))⟩
end Go.Proofs.YtomldoijcclhhaaGreat

namespace Go.Proofs.YtomldoijcclhhaaGreat
open Go.RowKit
/-- the rows of a drive at rest lie below the world's size -/
theorem ikrow_lt {Kp : Nat → Prop} {α : Type} {E : Rg.El α} {W : World} {a : Option Addr} {l : List α} (h : ERow E W a l) (k : iKRow Kp a l) : iKRow (fun b => Kp b ∧ b < W.heap.size) a l := by
  rcases k with k | ⟨b, o, h1, h2⟩
  · exact .inl k
  · rcases h with h | ⟨b', o', e1, e2, _⟩
    · exact .inl h
    · rw [h1] at e1
      cases e1
      exact .inr ⟨b, o, h1, h2, e2⟩
theorem IDR.lt {Kp : Nat → Prop} {W : World} {d : Gp.Dr} {p : Pl} (h : IDR Kp W d p) : IDR (fun b => Kp b ∧ b < W.heap.size) W d p := ⟨h.at_, h.wcap, h.acap, h.ql, h.wl, ikrow_lt h.at_.win h.kw, ikrow_lt h.at_.ahead h.ka, ikrow_lt h.at_.queue h.kq, ikrow_lt h.at_.took h.kt⟩
theorem IAt.rest {Kp : Nat → Prop} {base eb R : Nat} {W W' : World} {d : Gp.Dr} {p : Pl} {q : Qv} {S : List UInt8} {C : List Gp.Pc} {CR : List Value} (h : IAt (fun b => Kp b ∧ b < base) W eb d p q S C) (hq : d.queue.length ≤ 100000) (hwl : d.win.l.length ≤ 100000) (hn : base ≤ eb) (hK : ∀ b, base ≤ b → Kp b) (kR : Rg.Bk R CR 29 W) (hR2 : R < eb) (hk : ∀ k, k < W.heap.size → k ≠ eb → k ≠ R → q.sb.ownBlock ≠ some k → W'.heap[k]? = W.heap[k]?) (hb : Below base W W') : IDR Kp W' d p := by
  have key : ∀ {α : Type} {E : Rg.El α} {a : Option Addr} {l : List α}, TRow (fun b => Kp b ∧ b < base) E eb eb (ivs d p q) W a l → ERow E W' a l := fun {α E a l} h => by
    rcases h with h | ⟨b, o, h1, h2, h3, h4⟩
    · exact .inl h
    · refine .inr ⟨b, o, h1, Nat.lt_of_lt_of_le h2 hb.size, ?_⟩
      rcases h4 with h4 | ⟨h4, h5⟩
      · exact h3.below hb h4.2.2
      · exact h3.same (hk b h2 (by omega) (by omega) (h5 _ (by simp [ivs])))
  have key2 : ∀ {α : Type} {E : Rg.El α} {a : Option Addr} {l : List α}, TRow (fun b => Kp b ∧ b < base) E eb eb (ivs d p q) W a l → iKRow Kp a l := fun {α E a l} h2 => by
    rcases h2 with h2 | ⟨b, o, h1, _, _, h4⟩
    · exact .inl h2
    · rcases h4 with h4 | ⟨h4, _⟩
      · exact .inr ⟨b, o, h1, h4.2.1⟩
      · exact .inr ⟨b, o, h1, hK b (by omega)⟩
  have kah : ERow fiE W' p.a d.ahead ∧ iKRow Kp p.a d.ahead := by
    rcases h.ahead with ⟨_, ha⟩ | ⟨g, _, ha⟩
    · exact ⟨key ha, key2 ha⟩
    · have hlt := ha.lt
      have ha0 := ha
      obtain ⟨hg, o, cur, h2, h3, _⟩ := ha0
      refine ⟨(ha.kept (hk g hlt (by omega) (by omega) (fun e => ?_))).e, .inr ⟨g, o, h2, hK g (by omega)⟩⟩
      obtain ⟨c, fz, hT⟩ := Lib.ownsRowF_kind h.said.own g e
      rw [h3] at hT
      cases hT
  refine ⟨⟨key h.win, kah.1, key h.queue, ?_⟩, h.wcap, h.acap, hq, hwl, key2 h.win, kah.2, key2 h.queue, ?_⟩
  rotate_left
  · rcases h.took.2 with ⟨e, e0⟩ | ⟨g, cap, cur, e, hbg, _⟩
    · exact .inl (List.eq_nil_of_length_eq_zero e0)
    · injection e with e1 e2 e3
      exact .inr ⟨g, 0, e1, hK g (Nat.le_trans hn hbg)⟩
  rcases h.took.2 with ⟨e, e0⟩ | ⟨g, cap, cur, e, hbg, hgg, hle, _, hcs, htk⟩
  · exact .inl (List.eq_nil_of_length_eq_zero e0)
  · injection e with e1 e2 e3
    refine .inr ⟨g, 0, e1, Nat.lt_of_lt_of_le (Array.getElem?_eq_some_iff.1 hgg).1 hb.size, fun t u ht => ?_⟩
    have hgk : W'.heap[g]? = W.heap[g]? := by
      refine hk g (Array.getElem?_eq_some_iff.1 hgg).1 (fun e => ?_) (fun e => ?_) (fun e => ?_)
      · have k := h.bk
        unfold Rg.Bk at k
        rw [← e, hgg] at k
        cases k
      · unfold Rg.Bk at kR
        rw [← e, hgg] at kR
        cases kR
      · obtain ⟨c, fz, hT⟩ := Lib.ownsRowF_kind h.said.own g e
        rw [hgg] at hT
        cases hT
    rw [World.cell?_of_block (a := ⟨g, 0 + t, none⟩) hgk, Nat.zero_add, cell_of_row W g t cur _ _ hgg]
    rw [← htk, List.getElem?_take] at ht
    split at ht
    · simpa using ht
    · cases ht
end Go.Proofs.YtomldoijcclhhaaGreat

namespace Go.Proofs.YtomldoijcclhhaaGreat
open Go.RowKit
/-- rows that lie in no block from m to ahead of n -/
structure JNB (m n : Nat) (d : Gp.Dr) (p : Pl) (cv : Value) : Prop where
  w : d.win.l = [] ∨ ∃ b o, p.w = some ⟨b, o, none⟩ ∧ (b < m ∨ n ≤ b)
  q : d.queue = [] ∨ ∃ b o, p.q = some ⟨b, o, none⟩ ∧ (b < m ∨ n ≤ b)
  a : d.ahead = [] ∨ ∃ b o, p.a = some ⟨b, o, none⟩ ∧ (b < m ∨ n ≤ b)
  c : ∀ g, cv.ownBlock = some g → g < m ∨ n ≤ g
theorem TRow.jnb {Kp : Nat → Prop} {α : Type} {E : Rg.El α} {base eb n : Nat} {vs : List Value} {W : World} {a : Option Addr} {l : List α} (h : TRow Kp E base eb vs W a l) : l = [] ∨ ∃ b o, a = some ⟨b, o, none⟩ ∧ (b < W.heap.size ∨ n ≤ b) := by
  rcases h with h | ⟨b, o, h1, h2, _⟩
  · exact .inl h
  · exact .inr ⟨b, o, h1, .inl h2⟩
theorem IAt.nb {Kp : Nat → Prop} {W : World} {eb : Nat} {d : Gp.Dr} {p : Pl} {q : Qv} {S : List UInt8} {C : List Gp.Pc} (h : IAt Kp W eb d p q S C) (n : Nat) : JNB W.heap.size n d p q.cv := by
  refine ⟨h.win.jnb, h.queue.jnb, ?_, fun g hg => .inl (h.came.lt g hg).2⟩
  rcases h.ahead with ⟨_, ha⟩ | ⟨g, _, ha⟩
  · exact ha.jnb
  · have hlt := ha.lt
    obtain ⟨_, o, cur, h2, _⟩ := ha
    exact .inr ⟨g, o, h2, .inl hlt⟩
theorem TRow.istore {Kp : Nat → Prop} {α : Type} {E : Rg.El α} {base eb m n g i : Nat} {vs : List Value} {W : World} {a : Option Addr} {l : List α} {v : Value} (h : TRow Kp E base eb vs W a l) (hn : l = [] ∨ ∃ b o, a = some ⟨b, o, none⟩ ∧ (b < m ∨ n ≤ b)) (h1 : m ≤ g) (h2 : g < n) : TRow Kp E base eb vs (W.setCell ⟨g, i, none⟩ v) a l := by
  rcases h with h | ⟨b, o, e1, e2, e3, e4⟩
  · exact .inl h
  · rcases hn with hn | ⟨b', o', k1, k2⟩
    · exact .inl hn
    · rw [e1] at k1
      cases k1
      exact .inr ⟨b, o, e1, by simpa [World.setCell] using e2, e3.same (Below.heap_setCell _ _ _ _ (by show b ≠ g; omega)), e4⟩
/-- a store into a row of pieces of one's own -/
theorem IAt.other {m n g i : Nat} {CG : List Value} {Kp : Nat → Prop} {W : World} {eb : Nat} {d : Gp.Dr} {p : Pl} {q : Qv} {S : List UInt8} {C : List Gp.Pc} (h : IAt Kp W eb d p q S C) (hn : JNB m n d p q.cv) (k : Rg.Bk g CG 44 W) (h1 : m ≤ g) (h2 : g < n) (v : Value) : IAt Kp (W.setCell ⟨g, i, none⟩ v) eb d p q S C := by
  have hne : eb ≠ g := fun e => by
    have k2 := h.bk
    unfold Rg.Bk at k k2
    rw [e, k] at k2
    cases k2
  have hk : ∀ k, k ≠ g → (W.setCell ⟨g, i, none⟩ v).heap[k]? = W.heap[k]? := fun k hk => Below.heap_setCell _ _ _ _ hk
  refine ⟨h.bk.other hne v, h.win.istore hn.w h1 h2, h.wcap, ?_, h.acap, h.queue.istore hn.q h1 h2, ?_, h.sa, h.said.set k (by decide) v, ?_⟩
  · rcases h.ahead with ⟨e, ha⟩ | ⟨g', e, ha⟩
    · exact .inl ⟨e, ha.istore hn.a h1 h2⟩
    · refine .inr ⟨g', e, ha.kept (hk g' (fun e2 => ?_))⟩
      obtain ⟨_, o, cur, _, h3, _⟩ := ha
      unfold Rg.Bk at k
      rw [e2, k] at h3
      cases h3
  · exact own_kept h.took fun g' hg' => hk g' (fun e2 => own_ne h.took k (by decide) (e := 0) rfl (by rw [hg', e2]))
  · refine own_kept h.came fun g' hg' => hk g' (fun e2 => ?_)
    have := hn.c g' hg'
    omega
namespace Ip
theorem fillN_stop {f : Nat} {d : Gp.Dr} {out : List UInt8} (h : d.queue = [] ∨ ¬ (d.win.l.length : Int) < d.win.sz) : fillN (f + 1) d out = (d, out) := by
  unfold fillN
  rcases h with h | h
  · rw [h]
  · cases d.queue with
    | nil => rfl
    | cons p q => dsimp only; rw [if_neg (fun x => h x.2)]
theorem fillN_go {f : Nat} {d : Gp.Dr} {out : List UInt8} {p : Gp.Pc} {q : List Gp.Pc} (hq : d.queue = p :: q) (h2 : d.phase = 2) (hl : (d.win.l.length : Int) < d.win.sz) : fillN (f + 1) d out = fillN f (fill1 d p).1 (out ++ (fill1 d p).2) := by
  rw [fillN, hq]
  dsimp only
  rw [if_pos ⟨h2, hl⟩]
/-- the text that goes -/
def goes (dm : Gp.Dr) (x : Gp.Pc) : ByteArray := entry x.ch (x.data.extract 0 (min x.data.size dm.size.toNat))
end Ip
/-- what a round of sendWaiting finds: dm is the drive as the document has it then -/
structure JI (Kp : Nat → Prop) (eb : Nat) (d0 : Gp.Dr) (S : List UInt8) (C : List Gp.Pc) (ag : Option Nat) (cv : Value) (W : World) (w2n : Nat) (wr : World) (dm : Gp.Dr) (p : Pl) (q : Qv) (Si : List UInt8) (f : Nat) (qa : Option Addr) (qc : Nat) : Prop where
  at_ : IAt Kp wr eb { dm with queue := d0.queue } p q Si C
  qv : q.cv = cv ∧ q.ag = ag
  nb : JNB W.heap.size w2n { dm with queue := d0.queue } p cv
  fr : Fr eb eb W wr
  pq : PQ W.heap.size wr qa qc dm.queue
  pn : dm.queue = [] ∨ ∃ g o, qa = some ⟨g, o, none⟩ ∧ g < w2n
  sz : w2n ≤ wr.heap.size
  math : ∃ out, Si = S ++ out ∧ Ip.fillN f dm out = Ip.fill d0
  rt : Ip.right dm
  ph : dm.phase = 2
  fuel : 17 ≤ f + dm.win.l.length
  len : Si.length ≤ S.length + 4200 * dm.win.l.length
theorem JI.runs {Kp : Nat → Prop} {eb : Nat} {d0 : Gp.Dr} {S : List UInt8} {C : List Gp.Pc} {ag : Option Nat} {cv : Value} {W : World} {w2n : Nat} {wr : World} {dm : Gp.Dr} {p : Pl} {q : Qv} {Si : List UInt8} {f : Nat} {qa : Option Addr} {qc : Nat} (h : JI Kp eb d0 S C ag cv W w2n wr dm p q Si f qa qc) : Ip.runs dm := by
  have hp := h.ph
  rcases h.rt.2 with ⟨h, _⟩ | ⟨_, h⟩ | h | h | h
  · omega
  · exact h
  all_goals omega
theorem JI.n16 {Kp : Nat → Prop} {eb : Nat} {d0 : Gp.Dr} {S : List UInt8} {C : List Gp.Pc} {ag : Option Nat} {cv : Value} {W : World} {w2n : Nat} {wr : World} {dm : Gp.Dr} {p : Pl} {q : Qv} {Si : List UInt8} {f : Nat} {qa : Option Addr} {qc : Nat} (h : JI Kp eb d0 S C ag cv W w2n wr dm p q Si f qa qc) : dm.win.l.length ≤ 16 := by
  have hr := h.runs
  have h1 := hr.ws
  have h2 := hr.ln
  have h3 := h.rt.1.rm
  omega
theorem JI.goes_ok {Kp : Nat → Prop} {eb : Nat} {d0 : Gp.Dr} {S : List UInt8} {C : List Gp.Pc} {ag : Option Nat} {cv : Value} {W : World} {w2n : Nat} {wr : World} {dm : Gp.Dr} {p : Pl} {q : Qv} {Si : List UInt8} {f : Nat} {qa : Option Addr} {qc : Nat} (h : JI Kp eb d0 S C ag cv W w2n wr dm p q Si f qa qc) {x : Gp.Pc} {l : List Gp.Pc} (hq : dm.queue = x :: l) : Ip.okText dm.size (Ip.goes dm x) := by
  have hz := h.rt.1.sz
  obtain ⟨p1, p2, p3⟩ := h.rt.1.qu x (by rw [hq]; simp)
  have hk : min x.data.size dm.size.toNat ≤ x.data.size ∧ 0 < min x.data.size dm.size.toNat ∧ ((min x.data.size dm.size.toNat : Nat) : Int) ≤ dm.size := by omega
  obtain ⟨e1, e2⟩ := Ip.entry_parts x.ch (x.data.extract 0 (min x.data.size dm.size.toNat))
  rw [Gp.ex_size _ _ hk.1] at e1
  unfold Ip.goes
  refine ⟨by omega, by show _ ≤ dm.size + 1; omega, ?_⟩
  rw [e2]
  show (UInt8.ofNat x.ch.toNat).toNat ≤ 7
  rw [UInt8.toNat_ofNat']
  omega
/-- a text went: what is there then, but for the queue -/
theorem JI.step {Kp : Nat → Prop} {eb : Nat} {d0 : Gp.Dr} {S : List UInt8} {C : List Gp.Pc} {ag : Option Nat} {cv : Value} {W : World} {w2n : Nat} {wr : World} {dm : Gp.Dr} {p : Pl} {q : Qv} {Si : List UInt8} {f : Nat} {qa : Option Addr} {qc : Nat} (h : JI Kp eb d0 S C ag cv W w2n wr dm p q Si f qa qc) {x : Gp.Pc} {l : List Gp.Pc} (hq : dm.queue = x :: l) (hl : (dm.win.l.length : Int) < dm.win.sz)
    {a : Option Addr} {c : Nat} {s3 sb3 : Value} (hn : New wr a)
    {w4 : World} {qa' : Option Addr} {qc' : Nat} (h4 : IAt Kp w4 eb { dm with queue := d0.queue, win := (Wn.put dm.win (Ip.goes dm x)).1 } { p with w := a, wc := c } ⟨s3, sb3, cv, ag⟩ (Si ++ Ip.packet { dm with queue := d0.queue, win := (Wn.put dm.win (Ip.goes dm x)).1 } (Wn.put dm.win (Ip.goes dm x)).2.1 (Ip.goes dm x)) C) (f4 : Fr eb eb W w4) (hpq : PQ W.heap.size w4 qa' qc' (Gp.cutQ dm.queue (min x.data.size dm.size.toNat))) (hpn : Gp.cutQ dm.queue (min x.data.size dm.size.toNat) = [] ∨ ∃ g o, qa' = some ⟨g, o, none⟩ ∧ g < w2n) (hs4 : w2n ≤ w4.heap.size) :
    ∃ f', JI Kp eb d0 S C ag cv W w2n w4 (Ip.fill1 dm x).1 { p with w := a, wc := c } ⟨s3, sb3, cv, ag⟩ (Si ++ (Ip.fill1 dm x).2) f' qa' qc' := by
  have hrun := h.runs
  have hb := h.rt.1
  have hrt := Ip.runs_rt hb hrun
  have hput := Wn.put_ok hrt (by omega) (Ip.goes dm x)
  have hf := h.fuel
  have h7 := h.n16
  obtain ⟨f', rfl⟩ : ∃ f', f = f' + 1 := ⟨f - 1, by omega⟩
  obtain ⟨fb, fr⟩ := Ip.right_fill1 hb hrun hq hl
  obtain ⟨out, e1, e2⟩ := h.math
  have hplen : (Ip.fill1 dm x).2.length ≤ 4200 := ipacket_len (d := { dm with win := (Wn.put dm.win (Ip.goes dm x)).1 }) (n := (Wn.put dm.win (Ip.goes dm x)).2.1) hb.sz.2 (h.goes_ok hq)
  have hwl : (Ip.fill1 dm x).1.win.l.length = dm.win.l.length + 1 := by
    show (Wn.put dm.win (Ip.goes dm x)).1.l.length = _
    rw [hput]
    simp
  refine ⟨f', h4, ⟨rfl, rfl⟩, ⟨.inr ?_, h.nb.q, h.nb.a, h.nb.c⟩, f4, hpq, hpn, hs4, ⟨out ++ (Ip.fill1 dm x).2, by rw [e1, List.append_assoc], ?_⟩, ⟨fb, .inr (.inl ⟨h.ph, fr⟩)⟩, h.ph, by rw [hwl]; omega, ?_⟩
  · rcases h4.win with e | ⟨b, o, e, _, _, _⟩
    · exfalso
      have e' : (Wn.put dm.win (Ip.goes dm x)).1.l = [] := e
      rw [hput] at e'
      simp at e'
    · refine ⟨b, o, e, .inr ?_⟩
      have := hn b o e
      have := h.sz
      omega
  · rw [← e2, Ip.fillN_go hq h.ph hl]
  · rw [List.length_append, hwl]
    have := h.len
    omega
theorem JI.drewN {Kp : Nat → Prop} {eb : Nat} {d0 : Gp.Dr} {S : List UInt8} {C : List Gp.Pc} {ag : Option Nat} {cv : Value} {W : World} {w2n : Nat} {wr : World} {dm : Gp.Dr} {p : Pl} {q : Qv} {Si : List UInt8} {f : Nat} {qa : Option Addr} {qc : Nat} (h : JI Kp eb d0 S C ag cv W w2n wr dm p q Si f qa qc) (n : Nat) : JI Kp eb d0 S C ag cv W w2n (wr.drewN n) dm p q Si f qa qc :=
  ⟨h.at_.drewN n, h.qv, h.nb, ⟨Rg.drewN h.fr.bel n, fun k o hk hne ho => h.fr.oth k o hk hne ho⟩, h.pq.below (Rg.drewN (Below.refl _ _) n), h.pn, h.sz, h.math, h.rt, h.ph, h.fuel, h.len⟩
theorem JI.below {W' : World} {Kp : Nat → Prop} {eb : Nat} {d0 : Gp.Dr} {S : List UInt8} {C : List Gp.Pc} {ag : Option Nat} {cv : Value} {W : World} {w2n : Nat} {wr : World} {dm : Gp.Dr} {p : Pl} {q : Qv} {Si : List UInt8} {f : Nat} {qa : Option Addr} {qc : Nat} (h : JI Kp eb d0 S C ag cv W w2n wr dm p q Si f qa qc) (hb : Below wr.heap.size wr W') : JI Kp eb d0 S C ag cv W w2n W' dm p q Si f qa qc :=
  ⟨h.at_.below hb, h.qv, h.nb, h.fr.trans (Fr.of hb (Nat.le_of_lt h.at_.bk.lt)), h.pq.below hb, h.pn, Nat.le_trans h.sz hb.size, h.math, h.rt, h.ph, h.fuel, h.len⟩
end Go.Proofs.YtomldoijcclhhaaGreat

namespace Go.Proofs.YtomldoijcclhhaaGreat
open Go.RowKit
namespace Oct
theorem ofInt64 (a : Nat) (ha : a < 9223372036854775808) : (BitVec.ofInt 64 (a : Int)).toNat = a := by
  rw [BitVec.ofInt_natCast, BitVec.toNat_ofNat]; exact Nat.mod_eq_of_lt (by omega)
end Oct
end Go.Proofs.YtomldoijcclhhaaGreat

namespace Go.Proofs.YtomldoijcclhhaaGreat
open Go.RowKit
theorem Wn.find_mem {X : Wn.W} {n : Int} {s : ByteArray} (h : Wn.find X n = some s) : s ∈ X.l := by
  unfold Wn.find at h
  obtain ⟨k, _, hk⟩ := Option.bind_eq_some_iff.1 h
  exact List.mem_of_getElem? hk
end Go.Proofs.YtomldoijcclhhaaGreat

namespace Go.Proofs.YtomldoijcclhhaaGreat
open Go.RowKit
/-- what an append to came leaves -/
structure Came1 (Kp : Nat → Prop) (eb : Nat) (W : World) (d : Gp.Dr) (p : Pl) (q : Qv) (S : List UInt8) (C : List Gp.Pc) (x : Gp.Pc) (n1 : Nat) (v' : Value) (W2 : World) : Prop where
  v : ∃ g cap, v' = .slice (some ⟨g, 0, none⟩) n1 cap ∧ IAt Kp (W2.setCell ⟨eb, 20, none⟩ (.slice (some ⟨g, 0, none⟩) n1 cap)) eb d p { q with cv := .slice (some ⟨g, 0, none⟩) n1 cap } S (C ++ [x])
  bel : Below eb W W2
  c20 : W2.cell? ⟨eb, 20, none⟩ = some q.cv
  fz : ∀ i, W2.frozen? ⟨eb, i, none⟩ = false
  keep : ∀ k, k < W.heap.size → q.cv.ownBlock ≠ some k → W2.heap[k]? = W.heap[k]?
end Go.Proofs.YtomldoijcclhhaaGreat

namespace Go.Proofs.YtomldoijcclhhaaGreat
open Go.RowKit
/-- cells laid over others -/
def over (C : List Value) (o : Nat) (cs : List Value) : List Value := C.take o ++ cs ++ C.drop (o + cs.length)
theorem fi_enc (f : Gp.Fi) : (fiE.enc f).length = 6 := rfl
/-- packets in a block that is known whole, from a place on -/
structure FO (W : World) (g o c : Nat) (l : List Gp.Fi) (C : List Value) : Prop where
  blk : Rg.Bk g C 55 W
  fit : o + c * 6 ≤ C.length
  max : c ≤ maxLen
  le : l.length ≤ c
  at_ : ∀ t u, (fiE.flat l)[t]? = some u → C[o + t]? = some u
theorem FO.ao {W : World} {eb g o c : Nat} {l : List Gp.Fi} {C : List Value} (h : FO W g o c l C) (hg : eb < g) : AO W eb g (some ⟨g, o, none⟩) c l :=
  ⟨hg, o, C.toArray, rfl, h.blk, ⟨by simpa using h.fit, h.max⟩, fun t u ht => by simpa using h.at_ t u ht⟩
/-- what Insert leaves -/
def InsP (eb : Nat) (W : World) (ag : Option Nat) (l : List Gp.Fi) (e : Ending) (w' : World) : Prop := ∃ g' a' c', e = .returned (.slice a' l.length c') ∧ AO w' eb g' a' c' l ∧ l.length ≤ c' ∧ (ag = some g' ∨ W.heap.size ≤ g') ∧ (∀ k, k < W.heap.size → ag ≠ some k → w'.heap[k]? = W.heap[k]?) ∧ Below eb W w'
end Go.Proofs.YtomldoijcclhhaaGreat

namespace Go.Proofs.YtomldoijcclhhaaGreat
namespace Ip
open Gp (Dr Pc Fi)
/-- how many stand ahead -/
def pos (w E : Int) : List Fi → Nat
  | [] => 0
  | g :: r => if early w g.nm < E then pos w E r + 1 else 0
end Ip
end Go.Proofs.YtomldoijcclhhaaGreat

namespace Go.Proofs.YtomldoijcclhhaaGreat
open Go.RowKit
/-- what came early lies in a block of the end's own, or there is none of it -/
def IOw (d : Gp.Dr) (p : Pl) (q : Qv) : Prop := q.ag = none → d.ahead = [] ∧ p.ac = 0
end Go.Proofs.YtomldoijcclhhaaGreat
