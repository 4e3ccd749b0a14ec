/-
  Walks of layer 14: a variable that holds a window; the statements' example (awake).
-/
import Derived.Test.YtnglfefgcdbgmaaWn8
namespace Go.Proofs.Ytnglfefgcdbgmaa
open Go.RowKit
/-- a window's cells -/
def WC (X : Wn.W) (a : Option Addr) (c : Nat) : List Value := [.int .i64 X.md, .int .i64 X.sz, .int .i64 X.bs, .slice a X.l.length c]
/-- the stores of a whole window -/
def Set4 (W : World) (V : Nat) (X : Wn.W) (a : Option Addr) (c : Nat) : World := (((W.setCell ⟨V, 0, none⟩ (.int .i64 X.md)).setCell ⟨V, 1, none⟩ (.int .i64 X.sz)).setCell ⟨V, 2, none⟩ (.int .i64 X.bs)).setCell ⟨V, 3, none⟩ (.slice a X.l.length c)
/-- a variable of the call's own that holds a window -/
structure VarAt (w W : World) (V : Nat) (X : Wn.W) (a : Option Addr) (c : Nat) : Prop where
  bk : Rg.Bk V (WC X a c) 24 W
  wat : WAt W X a c
  bel : Below w.heap.size w W
  new : w.heap.size ≤ V
theorem VarAt.below {w W W' : World} {V : Nat} {X : Wn.W} {a : Option Addr} {c : Nat} (h : VarAt w W V X a c) (hb : Below W.heap.size W W') : VarAt w W' V X a c := ⟨h.bk.below hb h.bk.lt, h.wat.below hb, Rg.chain h.bel hb, h.new⟩
theorem VarAt.store {w W : World} {V : Nat} {X Y : Wn.W} {a a' : Option Addr} {c c' : Nat} (h : VarAt w W V X a c) (hY : WAt W Y a' c') : VarAt w (Set4 W V Y a' c') V Y a' c' := by
  obtain ⟨k, o⟩ := Rg.ret4 h.bk rfl (.int .i64 Y.md) (.int .i64 Y.sz) (.int .i64 Y.bs) (.slice a' Y.l.length c')
  exact ⟨k, hY.only h.bk (fun x h => by cases h) o, h.bel.trans (o.bel h.new), h.new⟩
theorem VarAt.only {w W W' : World} {V R : Nat} {X Y : Wn.W} {a a' : Option Addr} {c c' : Nat} (h : VarAt w W V X a c) (hR : Rg.Bk R (WC Y a' c') 24 W) (hVR : V ≠ R) (hw : w.heap.size ≤ R) (ho : Rg.Only R W W') : VarAt w W' V X a c :=
  ⟨h.bk.same (ho.block V hVR), h.wat.only hR (fun x h => by cases h) ho, h.bel.trans (ho.bel hw), h.new⟩
theorem VarAt.cells {w W : World} {V : Nat} {X : Wn.W} {a : Option Addr} {c : Nat} (h : VarAt w W V X a c) : W.cell? ⟨V, 0, none⟩ = some (.int .i64 X.md) ∧ W.cell? ⟨V, 1, none⟩ = some (.int .i64 X.sz) ∧ W.cell? ⟨V, 2, none⟩ = some (.int .i64 X.bs) ∧ W.cell? ⟨V, 3, none⟩ = some (.slice a X.l.length c) ∧ (∀ i, W.frozen? ⟨V, i, none⟩ = false) := ⟨h.bk.cell 0, h.bk.cell 1, h.bk.cell 2, h.bk.cell 3, h.bk.thaw⟩
/-- a variable made anew -/
theorem VarAt.make {w W : World} {X : Wn.W} {a : Option Addr} {c : Nat} (hb : Below w.heap.size w W) (h : WAt W X a c) : VarAt w (W.alloc (.cells #[.int .i64 X.md, .int .i64 X.sz, .int .i64 X.bs, .slice a X.l.length c] 24)) W.heap.size X a c :=
  ⟨Rg.Bk.new rfl, h.below (Rg.al1 W _), Rg.chain hb (Rg.al1 W _), hb.size⟩
def txA : ByteArray := ⟨#[97]⟩
def txB : ByteArray := ⟨#[98]⟩
set_option maxHeartbeats 4000000 in
set_option maxRecDepth 100000 in
theorem awake_any (w : World) : Calls Try.prog 13 #[] w fun e w' => e = .returned (.bool true) ∧ Below w.heap.size w w' := by
  have HB : Hid (∀ W, Calls Try.prog 8 #[.int .i64 8, .int .i64 3, .int .i64 7] W fun e w' => e = .returned (.tuple #[.agg #[.int .i64 8, .int .i64 3, .int .i64 7, .slice none 0 0], .int .i64 0]) ∧ Below W.heap.size W w') := fun W => begin_any 8 3 7 W
  have HP1 : Hid (∀ W V, VarAt w W V ⟨8, 3, 7, []⟩ none 0 → Calls Try.prog 15 #[.agg #[.int .i64 8, .int .i64 3, .int .i64 7, .slice none 0 0], .string ⟨#[97]⟩] W fun e w' => ∃ a c, e = .returned (.tuple #[.agg #[.int .i64 8, .int .i64 3, .int .i64 7, .slice a 1 c], .int .i64 7, .int .i64 0]) ∧ Hid (VarAt w w' V ⟨8, 3, 7, []⟩ none 0) ∧ Hid (WAt w' ⟨8, 3, 7, [txA]⟩ a c)) := fun W V hV => (put_any ⟨8, 3, 7, []⟩ none 0 txA W hV.wat).mono fun e w' ⟨a, c, h1, h2, h3⟩ => ⟨a, c, h1, hV.below h3, h2⟩
  have HP2 : Hid (∀ W V a c, VarAt w W V ⟨8, 3, 7, [txA]⟩ a c → Calls Try.prog 15 #[.agg #[.int .i64 8, .int .i64 3, .int .i64 7, .slice a 1 c], .string ⟨#[98]⟩] W fun e w' => ∃ a' c', e = .returned (.tuple #[.agg #[.int .i64 8, .int .i64 3, .int .i64 7, .slice a' 2 c'], .int .i64 0, .int .i64 0]) ∧ Hid (VarAt w w' V ⟨8, 3, 7, [txA]⟩ a c) ∧ Hid (WAt w' ⟨8, 3, 7, [txA, txB]⟩ a' c')) := fun W V a c hV => (put_any ⟨8, 3, 7, [txA]⟩ a c txB W hV.wat).mono fun e w' ⟨a', c', h1, h2, h3⟩ => ⟨a', c', h1, hV.below h3, h2⟩
  have HK : Hid (∀ W V a c, VarAt w W V ⟨8, 3, 7, [txA, txB]⟩ a c → Calls Try.prog 17 #[.agg #[.int .i64 8, .int .i64 3, .int .i64 7, .slice a 2 c], .int .i64 7] W fun e w' => ∃ a' c', e = .returned (.tuple #[.agg #[.int .i64 8, .int .i64 3, .int .i64 0, .slice a' 1 c'], .int .i64 1]) ∧ Hid (VarAt w w' V ⟨8, 3, 7, [txA, txB]⟩ a c) ∧ Hid (WAt w' ⟨8, 3, 0, [txB]⟩ a' c')) := fun W V a c hV => (ack_any ⟨8, 3, 7, [txA, txB]⟩ a c 7 W hV.wat).mono fun e w' ⟨a', c', h1, h2, h3⟩ => ⟨a', c', h1, hV.below h3, h2⟩
  have HF : Hid (∀ W V a c, VarAt w W V ⟨8, 3, 0, [txB]⟩ a c → Calls Try.prog 19 #[.agg #[.int .i64 8, .int .i64 3, .int .i64 0, .slice a 1 c], .int .i64 0] W fun e w' => e = .returned (.tuple #[.string ⟨#[98]⟩, .bool true]) ∧ Hid (VarAt w w' V ⟨8, 3, 0, [txB]⟩ a c)) := fun W V a c hV => (find_any ⟨8, 3, 0, [txB]⟩ a c 0 W hV.wat).mono fun e w' ⟨h1, h3⟩ => ⟨h1, hV.below h3⟩
  have hnil : Hid (∀ W, WAt W ⟨8, 3, 7, []⟩ none 0) := fun W => ⟨.nil, Nat.le_refl _⟩
  go_enter Try.func13, Try.ntmps13
  go_upto_region 2 with (go_at_call 8; refine (HB.out _).mono ?_; rintro e w1 ⟨rfl, b1⟩)
  have v1 := Rg.hid (VarAt.make b1 (hnil.out w1))
  dsimp only [List.length_nil, List.length_cons, Nat.zero_add, Nat.reduceAdd] at v1
  clear HB hnil b1
  obtain ⟨V, hV⟩ : ∃ V, V = w1.heap.size := ⟨_, rfl⟩
  rw [← hV] at v1 ⊢
  clear hV
  generalize World.alloc _ _ = w2 at *
  obtain ⟨y0, y1, y2, y3, _⟩ := v1.out.cells
  dsimp only [List.length_nil, List.length_cons, Nat.zero_add, Nat.reduceAdd] at y0 y1 y2 y3
  go_upto_region 3 with (go_at_call 15; refine (HP1.out _ _ v1.out).mono ?_; rintro e w3 ⟨a3, c3, rfl, u3, h3⟩; obtain ⟨x0, x1, x2, x3, xf⟩ := u3.out.cells; dsimp only [List.length_nil, List.length_cons, Nat.zero_add, Nat.reduceAdd] at x0 x1 x2 x3)
  have v3 := Rg.hid (u3.out.store h3.out)
  unfold Set4 at v3
  dsimp only [List.length_nil, List.length_cons, Nat.zero_add, Nat.reduceAdd] at v3
  generalize World.setCell _ _ _ = w3s at *
  clear x0 x1 x2 x3 xf y0 y1 y2 y3 u3 h3 v1 HP1
  obtain ⟨y0, y1, y2, y3, _⟩ := v3.out.cells
  dsimp only [List.length_nil, List.length_cons, Nat.zero_add, Nat.reduceAdd] at y0 y1 y2 y3
  go_upto_region 4 with (go_at_call 15; refine (HP2.out _ _ _ _ v3.out).mono ?_; rintro e w4 ⟨a4, c4, rfl, u4, h4⟩; obtain ⟨x0, x1, x2, x3, xf⟩ := u4.out.cells; dsimp only [List.length_nil, List.length_cons, Nat.zero_add, Nat.reduceAdd] at x0 x1 x2 x3)
  have v4 := Rg.hid (u4.out.store h4.out)
  unfold Set4 at v4
  dsimp only [List.length_nil, List.length_cons, Nat.zero_add, Nat.reduceAdd] at v4
  generalize World.setCell _ _ _ = w4s at *
  clear x0 x1 x2 x3 xf y0 y1 y2 y3 u4 h4 v3 HP2
  obtain ⟨y0, y1, y2, y3, _⟩ := v4.out.cells
  dsimp only [List.length_nil, List.length_cons, Nat.zero_add, Nat.reduceAdd] at y0 y1 y2 y3
  go_upto_region 5 with (go_at_call 17; refine (HK.out _ _ _ _ v4.out).mono ?_; rintro e w5 ⟨a5, c5, rfl, u5, h5⟩; obtain ⟨x0, x1, x2, x3, xf⟩ := u5.out.cells; dsimp only [List.length_nil, List.length_cons, Nat.zero_add, Nat.reduceAdd] at x0 x1 x2 x3)
  have v5 := Rg.hid (u5.out.store h5.out)
  unfold Set4 at v5
  dsimp only [List.length_nil, List.length_cons, Nat.zero_add, Nat.reduceAdd] at v5
  generalize World.setCell _ _ _ = w5s at *
  clear x0 x1 x2 x3 xf y0 y1 y2 y3 u5 h5 v4 HK
  obtain ⟨y0, y1, y2, y3, _⟩ := v5.out.cells
  dsimp only [List.length_nil, List.length_cons, Nat.zero_add, Nat.reduceAdd] at y0 y1 y2 y3
  go_wp2_with (go_at_call 19; refine (HF.out _ _ _ _ v5.out).mono ?_; rintro e w6 ⟨rfl, v6⟩)
  go_ret
  exact ⟨rfl, v6.out.bel⟩
end Go.Proofs.Ytnglfefgcdbgmaa
