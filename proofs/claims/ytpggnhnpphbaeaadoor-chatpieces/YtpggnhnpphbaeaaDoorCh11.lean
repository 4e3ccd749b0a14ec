/-
  Layer 8: a chat in memory, while it goes on.
-/
import Derived.Test.YtpggnhnpphbaeaaDoorCh10
import Derived.Test.YtpggnhnpphbaeaaDoorCh9
namespace Go.Proofs.YtpggnhnpphbaeaaDoor
open Go.RowKit

set_option maxHeartbeats 400000 in
theorem place_any (a n : Int) (w : World) : Calls Tryd.prog 20 #[.int .i64 a, .int .i64 n] w fun e w' => e = .returned (.bool (decide (0 ≤ a ∧ a < n))) ∧ w' = w := by
  by_cases h0 : 0 ≤ a
  · have d0 : decide (0 ≤ a) = true := by simp only [decide_eq_true_eq]; exact h0
    have hr : Hid (decide (0 ≤ a ∧ a < n) = decide (a < n)) := by show _ = _; rw [decide_eq_decide]; exact ⟨fun h => h.2, fun h => ⟨h0, h⟩⟩
    rw [hr.out]
    clear h0
    go_enter Tryd.func20, Tryd.ntmps20
    go_wp2
    go_ret
    exact ⟨rfl, rfl⟩
  · have d0 : decide (0 ≤ a) = false := by simp only [decide_eq_false_iff_not]; exact h0
    have hr : Hid (decide (0 ≤ a ∧ a < n) = false) := by show _ = _; simp only [decide_eq_false_iff_not]; exact fun h => h0 h.1
    rw [hr.out]
    clear h0
    go_enter Tryd.func20, Tryd.ntmps20
    go_wp2
    go_ret
    exact ⟨rfl, rfl⟩
/-- a chat's cells -/
def CC (sa : Option Addr) (sn sc : Nat) (step want : Int) (seen : ByteArray) (wait pat : Int) (over failed : Bool) : List Value := [.slice sa sn sc, .int .i64 step, .int .i64 want, .string seen, .int .i64 wait, .int .i64 pat, .bool over, .bool failed]
theorem chat_byte : 30 ≠ 5 := by decide
theorem chat_str : 30 ≠ 9 := by decide
theorem chat_step : 30 ≠ 28 := by decide
theorem byte_str : 5 ≠ 9 := by decide
theorem byte_step : 5 ≠ 28 := by decide
/-- a block of another type stays under an append of bytes -/
theorem bk_stay {b : Nat} {C : List Value} {ty : TypeId} {base : Nat} {W W' : World} {v : Value} {l : List UInt8} (k : Rg.Bk b C ty W) (h : BOwn base W v l) (hty : ty ≠ 5) (hs : ∀ k, k < W.heap.size → v.ownBlock ≠ some k → W'.heap[k]? = W.heap[k]?) : Rg.Bk b C ty W' :=
  k.same (hs b k.lt (fun e => by
    obtain ⟨C', k', _⟩ := h.typed b e
    unfold Rg.Bk at k k'
    rw [k] at k'
    injection k' with k'
    injection k' with _ k' _
    exact hty k'))
theorem tow_stay {α : Type} {E : Rg.El α} {base : Nat} {W W' : World} {a : Option Addr} {l : List α} {v : Value} {q : List UInt8} (h : Rg.Tow E W a l) (hv : BOwn base W v q) (hty : 5 ≠ E.ty) (hsz : W.heap.size ≤ W'.heap.size) (hs : ∀ k, k < W.heap.size → v.ownBlock ≠ some k → W'.heap[k]? = W.heap[k]?) : Rg.Tow E W' a l :=
  h.stay (x := v.ownBlock.map fun g => ⟨g, 0, none⟩) (ty := 5) hsz (fun k hk hne => hs k hk (fun e => hne (by rw [e]; rfl))) (fun g e => by
    cases hb : v.ownBlock with
    | none => rw [hb] at e; cases e
    | some g' =>
      rw [hb] at e
      simp at e
      subst e
      obtain ⟨C, k, _⟩ := hv.typed g' hb
      exact ⟨C, k⟩) hty
theorem sts_stay {base : Nat} {W W' : World} {vs : List SV} {xs : List Ch.St} {v : Value} {q : List UInt8} (h : StsAt W vs xs) (hv : BOwn base W v q) (hsz : W.heap.size ≤ W'.heap.size) (hs : ∀ k, k < W.heap.size → v.ownBlock ≠ some k → W'.heap[k]? = W.heap[k]?) : StsAt W' vs xs :=
  h.imp fun _ _ p => ⟨p.n, tow_stay p.wants hv byte_str hsz hs, p.nc, p.m, tow_stay p.nudge hv byte_str hsz hs, p.md, p.s⟩
/-- what a chat keeps while it goes on -/
structure GAt (w : World) (B R : Nat) (sa : Option Addr) (vs : List SV) (xs : List Ch.St) (cs : List Value) (v : Value) (out : List UInt8) (W : World) : Prop where
  bel : Below w.heap.size w W
  chat : Rg.Bk B cs 30 W
  res : Rg.Bk R (CC none 0 0 0 0 ⟨#[]⟩ 0 0 false false) 30 W
  row : Rg.Tow stepE W sa vs
  sts : StsAt W vs xs
  bytes : BOwn w.heap.size W v out
  low : w.heap.size ≤ B ∧ w.heap.size ≤ R ∧ B ≠ R
theorem GAt.below {w : World} {B R : Nat} {sa : Option Addr} {vs : List SV} {xs : List Ch.St} {cs : List Value} {v : Value} {out : List UInt8} {W W' : World} (h : GAt w B R sa vs xs cs v out W) (hb : Below W.heap.size W W') : GAt w B R sa vs xs cs v out W' :=
  ⟨Rg.chain h.bel hb, h.chat.below hb h.chat.lt, h.res.below hb h.res.lt, h.row.below hb, h.sts.below hb, h.bytes.below hb, h.low⟩
theorem GAt.store {w : World} {B R : Nat} {sa : Option Addr} {vs : List SV} {xs : List Ch.St} {cs : List Value} {v : Value} {out : List UInt8} {W : World} (h : GAt w B R sa vs xs cs v out W) (i : Nat) (u : Value) : GAt w B R sa vs xs (cs.set i u) v out (W.setCell ⟨B, i, none⟩ u) :=
  have o := Rg.Only.setCell W B i u
  ⟨h.bel.trans (o.bel h.low.1), h.chat.set i u, h.res.same (o.block R (Ne.symm h.low.2.2)), h.row.only h.chat chat_step o, h.sts.only h.chat chat_str o, h.bytes.only h.chat chat_byte o, h.low⟩
theorem GAt.add {w : World} {B R : Nat} {sa : Option Addr} {vs : List SV} {xs : List Ch.St} {cs : List Value} {v : Value} {out : List UInt8} {W : World} (h : GAt w B R sa vs xs cs v out W) (s : ByteArray) (hlen : out.length + s.size ≤ 1000000000) :
    ∃ v' W', (Builtin.append_ #[51, 9] 51 #[v, .string s]).run Tryd.prog W = .ok v' W' ∧ GAt w B R sa vs xs cs v' (out ++ s.data.toList) W' := by
  obtain ⟨v', W', h1, h2, h3, h4⟩ := h.bytes.add s h.bel.size hlen
  exact ⟨v', W', h1, ⟨h.bel.trans h3, bk_stay h.chat h.bytes chat_byte h4, bk_stay h.res h.bytes chat_byte h4, tow_stay h.row h.bytes byte_step h3.size h4, sts_stay h.sts h.bytes h3.size h4, h2, h.low⟩⟩
/-- eight stores: a chat handed back -/
theorem ret8 {b : Nat} {C : List Value} {ty : TypeId} {W : World} (h : Rg.Bk b C ty W) (hC : C.length = 8) (v0 v1 v2 v3 v4 v5 v6 v7 : Value) :
    Rg.Bk b [v0, v1, v2, v3, v4, v5, v6, v7] ty ((((((((W.setCell ⟨b, 0, none⟩ v0).setCell ⟨b, 1, none⟩ v1).setCell ⟨b, 2, none⟩ v2).setCell ⟨b, 3, none⟩ v3).setCell ⟨b, 4, none⟩ v4).setCell ⟨b, 5, none⟩ v5).setCell ⟨b, 6, none⟩ v6).setCell ⟨b, 7, none⟩ v7) ∧
    Rg.Only b W ((((((((W.setCell ⟨b, 0, none⟩ v0).setCell ⟨b, 1, none⟩ v1).setCell ⟨b, 2, none⟩ v2).setCell ⟨b, 3, none⟩ v3).setCell ⟨b, 4, none⟩ v4).setCell ⟨b, 5, none⟩ v5).setCell ⟨b, 6, none⟩ v6).setCell ⟨b, 7, none⟩ v7) := by
  have k := (((((((h.set 0 v0).set 1 v1).set 2 v2).set 3 v3).set 4 v4).set 5 v5).set 6 v6).set 7 v7
  match C, hC with
  | [_, _, _, _, _, _, _, _], _ => exact ⟨k, (((((((Rg.Only.setCell W b 0 v0).trans (Rg.Only.setCell _ b 1 v1)).trans (Rg.Only.setCell _ b 2 v2)).trans (Rg.Only.setCell _ b 3 v3)).trans (Rg.Only.setCell _ b 4 v4)).trans (Rg.Only.setCell _ b 5 v5)).trans (Rg.Only.setCell _ b 6 v6)).trans (Rg.Only.setCell _ b 7 v7)⟩
/-- a chat as a value, its steps in memory -/
def CAt (W : World) (v : Value) (c : Ch.Co) : Prop := ∃ sa sc vs, v = .agg (CC sa c.steps.length sc c.step c.want ⟨c.seen.toArray⟩ c.wait c.pat c.over c.failed).toArray ∧ Rg.Tow stepE W sa vs ∧ StsAt W vs c.steps ∧ c.steps.length ≤ sc
theorem CAt.below {W W' : World} {v : Value} {c : Ch.Co} (h : CAt W v c) (hb : Below W.heap.size W W') : CAt W' v c := by
  obtain ⟨sa, sc, vs, h1, h2, h3, h4⟩ := h
  exact ⟨sa, sc, vs, h1, h2.below hb, h3.below hb, h4⟩
theorem CAt.only {W W' : World} {v : Value} {c : Ch.Co} {R : Nat} {C : List Value} (h : CAt W v c) (k : Rg.Bk R C 30 W) (ho : Rg.Only R W W') : CAt W' v c := by
  obtain ⟨sa, sc, vs, h1, h2, h3, h4⟩ := h
  exact ⟨sa, sc, vs, h1, h2.only k chat_step ho, h3.only k chat_str ho, h4⟩
/-- behind a call that hands back a chat and what it sends -/
def GPost (w : World) (r : Ch.Co × List UInt8) (e : Ending) (w' : World) : Prop := ∃ v, e = .returned (.tuple #[v, .string ⟨r.2.toArray⟩]) ∧ CAt w' v r.1 ∧ Below w.heap.size w w'
/-- a number in a cell -/
def cellInt (W : World) (b i : Nat) : Int := match W.cell? ⟨b, i, none⟩ with
  | some (.int _ x) => x
  | _ => 0
theorem wpList_append_run2 {P : Program} {w : World} {ops : Array Oper} {rest : List Oper} {o : Oper} {a : Act} {Q : Exit → Act → World → Prop} (hw : Region.wanted o (yielded ops a.tmps) = true) (s x : Operand) (t t2 : TypeId)
    (ho : o.op = .call { callee := .builtin .append, args := #[s, x], argTypes := #[t, t2] }) (v u : Value) (hs : a.eval s = v) (hx : a.eval x = u) (v' : Value) (w' : World)
    (hrun : (Builtin.append_ #[t, t2] o.type #[v, u]).run P w = .ok v' w') (h : wpList P ops Q rest (a.put o.dst v') w') : wpList P ops Q (o :: rest) a w := by
  refine wpList_step fun K hK => ?_
  rw [if_pos hw]
  unfold Oper.wp
  simp [execOp, ho, resolve, invoke, builtin, hs, hx, hrun, Result.andThen]
  exact hK _ _ h
end Go.Proofs.YtpggnhnpphbaeaaDoor
