/-
  Layer 14: what stands while the calls of WindowKeeps are made.
-/
import Derived.Test.YtnglfefgcdbgmaaWnK
import Derived.Test.YtnglfefgcdbgmaaWnB
namespace Go.Proofs.Ytnglfefgcdbgmaa
open Go.RowKit
/-- a window in block V, and what waits -/
structure KI (w W : World) (V : Nat) (X : Wn.W) (a : Option Addr) (c : Nat) (A : Option Addr) (cap : Nat) (S : List Wn.Op) : Prop where
  var : VarAt w W V X a c
  ws : WS w.heap.size W A cap S
  ap : X.l ≠ [] → ∀ b o g p, a = some ⟨b, o, none⟩ → A = some ⟨g, p, none⟩ → b ≠ g
theorem KI.below {w W W' : World} {V : Nat} {X : Wn.W} {a A : Option Addr} {c cap : Nat} {S : List Wn.Op} (h : KI w W V X a c A cap S) (hb : Below W.heap.size W W') : KI w W' V X a c A cap S := ⟨h.var.below hb, h.ws.below hb, h.ap⟩
/-- what a call hands back for the variable -/
def Fresh (w W : World) (X Y : Wn.W) (a a' : Option Addr) (c c' : Nat) (A : Option Addr) : Prop := WAt W Y a' c' ∧ w.heap.size ≤ W.heap.size ∧ ((Y = X ∧ a' = a ∧ c' = c) ∨ ∀ b o g p, a' = some ⟨b, o, none⟩ → A = some ⟨g, p, none⟩ → b ≠ g)
theorem Fresh.below {w W W' : World} {X Y : Wn.W} {a a' A : Option Addr} {c c' : Nat} (h : Fresh w W X Y a a' c c' A) (hb : Below W.heap.size W W') : Fresh w W' X Y a a' c c' A := ⟨h.1.below hb, Nat.le_trans h.2.1 hb.size, h.2.2⟩
theorem KI.store {w W : World} {V : Nat} {X Y : Wn.W} {a a' A : Option Addr} {c c' cap : Nat} {S : List Wn.Op} (h : KI w W V X a c A cap S) (hY : Fresh w W X Y a a' c c' A) : KI w (Set4 W V Y a' c') V Y a' c' A cap S := by
  obtain ⟨k, o⟩ := Rg.ret4 h.var.bk rfl (.int .i64 Y.md) (.int .i64 Y.sz) (.int .i64 Y.bs) (.slice a' Y.l.length c')
  refine ⟨h.var.store hY.1, h.ws.only h.var.bk o, ?_⟩
  rcases hY.2.2 with ⟨rfl, rfl, rfl⟩ | hn
  · exact h.ap
  · exact fun _ => hn
theorem KI.fresh {w W W' : World} {V : Nat} {X Y : Wn.W} {a a' A : Option Addr} {c c' cap : Nat} {S : List Wn.Op} (h : KI w W V X a c A cap S) (hY : WAt W' Y a' c') (hb : Below W.heap.size W W') (hn : (Y = X ∧ a' = a ∧ c' = c) ∨ New W a') : Fresh w W' X Y a a' c c' A := by
  refine ⟨hY, Nat.le_trans h.var.bel.size hb.size, ?_⟩
  rcases hn with hn | hn
  · exact .inl hn
  · refine .inr fun b o g p e1 e2 => ?_
    have h1 := hn b o e1
    rcases h.ws with ⟨e3, _⟩ | ⟨g', o', C, e3, h4⟩
    · rw [e3] at e2; cases e2
    · rw [e3] at e2
      cases e2
      have := h4.blk.lt
      omega
theorem ack_in (w W : World) (V : Nat) (X : Wn.W) (a : Option Addr) (c : Nat) (A : Option Addr) (cap : Nat) (S : List Wn.Op) (k : Int) (h : KI w W V X a c A cap S) :
    Calls Try.prog 17 #[WV X a c, .int .i64 k] W fun e w' => ∃ a' c', e = .returned (.tuple #[WV (Wn.ack X k).1 a' c', .int .i64 ((Wn.ack X k).2 : Nat)]) ∧ Hid (KI w w' V X a c A cap S) ∧ Hid (Fresh w w' X (Wn.ack X k).1 a a' c c' A) ∧ Hid (Below W.heap.size W w') :=
  (ack_anyN X a c k W h.var.wat).mono fun _ _ ⟨a', c', h1, h2, h3, h4⟩ => ⟨a', c', h1, h.below h3, h.fresh h2 h3 h4, h3⟩
theorem put_in (w W : World) (V : Nat) (X : Wn.W) (a : Option Addr) (c : Nat) (A : Option Addr) (cap : Nat) (S : List Wn.Op) (x : ByteArray) (h : KI w W V X a c A cap S) :
    Calls Try.prog 15 #[WV X a c, .string x] W fun e w' => ∃ a' c', e = .returned (.tuple #[WV (Wn.put X x).1 a' c', .int .i64 (Wn.put X x).2.1, .int .i64 ((Wn.put X x).2.2 : Nat)]) ∧ Hid (KI w w' V X a c A cap S) ∧ Hid (Fresh w w' X (Wn.put X x).1 a a' c c' A) ∧ Hid (Below W.heap.size W w') :=
  (put_anyN X a c x W h.var.wat).mono fun _ _ ⟨a', c', h1, h2, h3, h4⟩ => ⟨a', c', h1, h.below h3, h.fresh h2 h3 h4, h3⟩
theorem find_in (w W : World) (V : Nat) (X : Wn.W) (a : Option Addr) (c : Nat) (A : Option Addr) (cap : Nat) (S : List Wn.Op) (k : Int) (h : KI w W V X a c A cap S) :
    Calls Try.prog 19 #[WV X a c, .int .i64 k] W fun e w' => e = .returned (Wn.findV X k) ∧ Hid (KI w w' V X a c A cap S) ∧ Hid (Below W.heap.size W w') :=
  (find_any X a c k W h.var.wat).mono fun _ _ ⟨h1, h3⟩ => ⟨h1, h.below h3, h3⟩
/-- one more waits -/
theorem KI.append {w W : World} {V : Nat} {X : Wn.W} {a A : Option Addr} {c cap : Nat} {S : List Wn.Op} (h : KI w W V X a c A cap S) (x : Wn.Op) (ad n : Nat) (hx : Rg.At W ad 0 (opE.enc x)) (hn : n = S.length) (hS : n ≤ 10000) :
    ∃ v' W', (Builtin.append_ #[42, 42] 42 #[.slice A n cap, .slice (some ⟨ad, 0, none⟩) 1 1]).run Try.prog W = .ok v' W' ∧ ∃ A' cap', v' = .slice A' (n + 1) cap' ∧ Hid (KI w W' V X a c A' cap' (S ++ [x])) := by
  subst hn
  obtain ⟨v', W', h1, A', cap', h2, h3, h4, h5, h6, h7⟩ := h.ws.append x ad hx h.var.bel.size hS
  refine ⟨v', W', h1, A', cap', h2, ?_⟩
  have hV : ∀ o, A ≠ some ⟨V, o, none⟩ := fun o e => by
    rcases h.ws with ⟨e3, _⟩ | ⟨g', o', C, e3, k4⟩
    · rw [e3] at e; cases e
    · rw [e3] at e
      cases e
      have e1 := k4.blk
      have e2 := h.var.bk
      unfold Rg.Bk at e1 e2
      rw [e1] at e2
      simp at e2
  refine ⟨⟨h.var.bk.same (h5 V h.var.bk.lt hV), ⟨?_, h.var.wat.cap⟩, h.var.bel.trans h4, h.var.new⟩, h3, ?_⟩
  · rcases h.var.wat.row with hl | ⟨b, o, hb1, hb2, hb3⟩
    · exact .inl hl
    · by_cases hl : X.l = []
      · exact .inl hl
      · exact .inr ⟨b, o, hb1, Nat.lt_of_lt_of_le hb2 h6, hb3.same (h5 b hb2 fun p e => h.ap hl b o b p hb1 e rfl)⟩
  · intro hl b o g p e1 e2
    rcases h7 g p e2 with e3 | e3
    · exact h.ap hl b o g p e1 e3
    · rcases h.var.wat.row with hl2 | ⟨b', o', hb1, hb2, hb3⟩
      · exact absurd hl2 hl
      · rw [hb1] at e1
        cases e1
        omega
/-- the first of what waits go -/
theorem KI.drop {w W : World} {V : Nat} {X : Wn.W} {a : Option Addr} {c cap g o : Nat} {S : List Wn.Op} (h : KI w W V X a c (some ⟨g, o, none⟩) cap S) (k : Nat) (hk : k ≤ S.length) : KI w W V X a c (some ⟨g, o + k * 3, none⟩) (cap - k) (S.drop k) := by
  refine ⟨h.var, ?_, fun hl b o' g' p e1 e2 => ?_⟩
  · rcases h.ws with ⟨e, _⟩ | ⟨g', o', C, e, k4⟩
    · cases e
    · cases e
      exact .inr ⟨g, o + k * 3, C, rfl, k4.drop k hk⟩
  · cases e2
    exact h.ap hl b o' g o e1 rfl
theorem KI.gone {w W : World} {V : Nat} {X : Wn.W} {a : Option Addr} {c cap g o : Nat} {S : List Wn.Op} (h : KI w W V X a c (some ⟨g, o, none⟩) cap S) : KI w W V X a c (some ⟨g, o, none⟩) 0 [] := by
  refine ⟨h.var, ?_, h.ap⟩
  rcases h.ws with ⟨e, _⟩ | ⟨g', o', C, e, k4⟩
  · cases e
  · cases e
    exact .inr ⟨g, o, C, rfl, k4.gone⟩
namespace Wn
/-- what waits, as calls -/
def wops (X : W) : List Op := (waits X).map fun y => ⟨0, y.1, y.2⟩
theorem wops_len (X : W) : (wops X).length = X.l.length := by unfold wops; rw [List.length_map, waits_len]
theorem wops_get (X : W) {j : Nat} (hj : j < (wops X).length) (h : j < X.l.length) : (wops X)[j] = ⟨0, num X j, X.l[j]⟩ := by
  have e : (wops X)[j]? = some ⟨0, num X j, X.l[j]⟩ := by
    unfold wops
    rw [List.getElem?_map, List.getElem?_eq_getElem (by rw [waits_len]; exact h), waits_get X h]
    rfl
  rw [List.getElem?_eq_getElem hj] at e
  exact Option.some.inj e
/-- what stands of the numbers -/
structure KP (M Z : Int) (X : W) (S : List Op) (n inn out : Nat) : Prop where
  ok : rt X = true
  md : X.md = M
  sz : X.sz = Z
  ws : S = wops X
  len : n = S.length
  sum : inn = out + n
theorem KP.small {M Z : Int} {X : W} {S : List Op} {n inn out : Nat} (h : KP M Z X S n inn out) : n = X.l.length ∧ n ≤ 64 := by
  have h1 := h.len
  rw [h.ws, wops_len] at h1
  have := rt_parts h.ok
  exact ⟨h1, by omega⟩
theorem KP.begin_ {M Z : Int} (h : fit M Z 0) : KP M Z ⟨M, Z, 0, []⟩ [] 0 0 0 := by
  obtain ⟨h1, h2, h3, h4, h5, h6⟩ := h
  exact ⟨rt_of ⟨h1, h2, h3, h4, h5, h6, by show ((0 : Nat) : Int) ≤ Z; omega⟩, rfl, rfl, rfl, rfl, rfl⟩
theorem KP.put {M Z : Int} {X : W} {S : List Op} {n inn out : Nat} (h : KP M Z X S n inn out) (x : ByteArray) : ((put X x).2.2 = 0 ∧ KP M Z (put X x).1 (S ++ [⟨0, (put X x).2.1, x⟩]) (n + 1) (inn + 1) out) ∨ (put X x).2.2 = 8 := by
  by_cases hl : (X.l.length : Int) = X.sz
  · right
    rw [put_full h.ok hl]
  · left
    rw [put_ok h.ok hl]
    refine ⟨rfl, put_rt h.ok hl x, h.md, h.sz, ?_, by rw [List.length_append, h.len]; rfl, by have := h.sum; omega⟩
    unfold wops
    rw [waits_put, List.map_append, h.ws]
    rfl
theorem KP.ack {M Z : Int} {X : W} {S : List Op} {n inn out : Nat} (h : KP M Z X S n inn out) (k : Int) : (Wn.ack X k).2 ≤ n ∧ KP M Z (Wn.ack X k).1 (S.drop (Wn.ack X k).2) (n - (Wn.ack X k).2) inn (out + (Wn.ack X k).2) ∧ lastAt k (waits X) 0 0 = (Wn.ack X k).2 := by
  refine ⟨?_, ?_, lastAt_ack h.ok k⟩
  · cases hp : place X k with
    | none => rw [show Wn.ack X k = (X, 0) by unfold Wn.ack; rw [hp]]; exact Nat.zero_le _
    | some K =>
      rw [show (Wn.ack X k).2 = K + 1 by unfold Wn.ack; rw [hp]]
      have := (place_some hp).2.1
      have := h.small.1
      omega
  · cases hp : place X k with
    | none =>
      rw [show Wn.ack X k = (X, 0) by unfold Wn.ack; rw [hp]]
      exact h
    | some K =>
      rw [show Wn.ack X k = ({ X with bs := (k + 1) % X.md, l := X.l.drop (K + 1) }, K + 1) by unfold Wn.ack; rw [hp]]
      have hK := (place_some hp).2.1
      have hs := h.small.1
      refine ⟨ack_rt hp, h.md, h.sz, ?_, by rw [List.length_drop, ← h.len], by have := h.sum; dsimp only; omega⟩
      unfold wops
      dsimp only
      rw [waits_ack hp, List.map_drop, h.ws]
      rfl
theorem KP.get {M Z : Int} {X : W} {S : List Op} {n inn out : Nat} (h : KP M Z X S n inn out) {j : Nat} (hj : j < S.length) : findV X S[j].n = .tuple #[.string S[j].s, .bool true] := by
  have h1 := h.len
  have hl : j < X.l.length := by rw [← h.small.1, h1]; exact hj
  have hS := h.ws
  subst hS
  rw [wops_get X hj hl]
  unfold findV
  dsimp only
  rw [waits_find h.ok hl]
/-- the search for the last place, step by step -/
theorem lastAt_step {X : W} {k : Int} {j kk : Nat} (hj : j < (wops X).length) : lastAt k ((waits X).drop j) j kk = lastAt k ((waits X).drop (j + 1)) (j + 1) (if (wops X)[j].n = k then j + 1 else kk) := by
  have hj2 : j < (waits X).length := by rw [waits_len]; rw [wops_len] at hj; exact hj
  rw [List.drop_eq_getElem_cons hj2, lastAt]
  have hl : j < X.l.length := by rw [wops_len] at hj; exact hj
  rw [wops_get X hj hl, waits_get X hl]
end Wn
end Go.Proofs.Ytnglfefgcdbgmaa
