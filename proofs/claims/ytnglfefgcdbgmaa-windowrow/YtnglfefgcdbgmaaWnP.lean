/-
  Layer 14: a map of the call's own whose keys are numbers; a window beside it.
-/
import Derived.Test.YtnglfefgcdbgmaaWnK
import Derived.Test.YtnglfefgcdbgmaaWnH
import Derived.Test.YtnglfefgcdbgmaaWnB
import Derived.MapKept
import Derived.Carry
namespace Go.Proofs.Ytnglfefgcdbgmaa
open Go.RowKit
theorem mapU : Try.prog.underlying 46 = some (.map 3 4) := by kernel_rfl
/-- block r is a map of the keys ks, in the order in which they were put -/
def MB (W : World) (r : Nat) (ks : List Int) : Prop := ∃ es clock, W.heap[r]? = some (.map es clock) ∧ es.toList.map (·.key) = ks.map (Value.int .i64)
theorem MB.below {W W' : World} {r : Nat} {ks : List Int} (h : MB W r ks) (hb : Below W.heap.size W W') : MB W' r ks := by
  obtain ⟨es, clock, h1, h2⟩ := h
  exact ⟨es, clock, by rw [hb.block r (Array.getElem?_eq_some_iff.1 h1).1]; exact h1, h2⟩
theorem MB.new (W : World) : MB (W.alloc (.map #[] 0)) W.heap.size [] := ⟨#[], 0, (MapKept.heap_alloc W _).1, rfl⟩
theorem MB.keys {ks : List Int} {es : Array MapEntry} (h : es.toList.map (·.key) = ks.map (Value.int .i64)) : ∀ x ∈ es.toList, MapKept.IsKey (.int .i64) x.key := by
  intro x hx
  have : x.key ∈ es.toList.map (·.key) := List.mem_map.2 ⟨x, hx, rfl⟩
  rw [h] at this
  obtain ⟨y, _, e⟩ := List.mem_map.1 this
  rw [← e]
  exact rfl
theorem MB.find {ks : List Int} {es : Array MapEntry} (h : es.toList.map (·.key) = ks.map (Value.int .i64)) {n : Int} (hn : n ∉ ks) : Instr.findNow (.int .i64) (.int .i64 n) es.toList 0 = some none := by
  rcases MapKept.findNow_spec (d := .int .i64) (k := .int .i64 n) rfl es.toList 0 (MB.keys h) with ⟨h1, _⟩ | ⟨j, e, _, h2, h3⟩
  · exact h1
  · exfalso
    have : e.key ∈ es.toList.map (·.key) := List.mem_map.2 ⟨e, List.mem_of_getElem? h2, rfl⟩
    rw [h, h3] at this
    obtain ⟨y, hy, e2⟩ := List.mem_map.1 this
    cases e2
    exact hn hy
/-- a look-up that misses -/
theorem MB.lookup {W : World} {r : Nat} {ks : List Int} (h : MB W r ks) {n : Int} (hn : n ∉ ks) : (Instr.lookup 46 (.map (some r)) (.int .i64 n) false).run Try.prog W = .ok (.bool false) W := by
  obtain ⟨es, clock, h1, h2⟩ := h
  simp [Instr.lookup, run_underlying mapU, MapKept.run_getObj_map h1, MapKept.run_checkKey (d := .int .i64) Try.underlying3 (k := .int .i64 n) rfl, MapKept.run_findKey Try.underlying3 (MB.find h2 hn), Result.andThen]
/-- a new key is put -/
theorem MB.update {W : World} {r : Nat} {ks : List Int} (h : MB W r ks) {n : Int} (hn : n ∉ ks) : ∃ W', (Instr.mapUpdate 46 (.map (some r)) (.int .i64 n) (.bool true)).run Try.prog W = .ok () W' ∧ MB W' r (ks ++ [n]) ∧ Rg.Only r W W' := by
  obtain ⟨es, clock, h1, h2⟩ := h
  have hs := MapKept.heap_set (o' := .map (es.push { key := .int .i64 n, val := .bool true, born := clock }) (clock + 1)) h1
  refine ⟨{ W with heap := W.heap.setIfInBounds r (.map (es.push { key := .int .i64 n, val := .bool true, born := clock }) (clock + 1)) }, ?_, ⟨_, _, hs.1, ?_⟩, ⟨rfl, rfl, rfl, by simp, fun k hk => hs.2 k hk⟩⟩
  · simp [Instr.mapUpdate, run_underlying mapU, MapKept.run_getObj_map h1, MapKept.run_checkKey (d := .int .i64) Try.underlying3 (k := .int .i64 n) rfl, MapKept.run_findKey Try.underlying3 (MB.find h2 hn), MapKept.run_setObj_map _ h1, Result.andThen]
  · simp [h2]
theorem MB.len {W : World} {r : Nat} {ks : List Int} (h : MB W r ks) (ty : TypeId) : (Builtin.len_ #[46] ty #[.map (some r)]).run Try.prog W = .ok (.int .i64 (ks.length : Int)) W := by
  obtain ⟨es, clock, h1, h2⟩ := h
  have hl : es.size = ks.length := by have := congrArg List.length h2; simpa using this
  simp [Builtin.len_, run_underlying mapU, MapKept.run_getObj_map h1, goInt, hl, Result.andThen]
theorem MB.ne {W : World} {r b o : Nat} {ks : List Int} (h : MB W r ks) {v : Value} (hc : W.cell? ⟨b, o, none⟩ = some v) : b ≠ r := by
  intro e
  subst e
  obtain ⟨es, clock, h1, _⟩ := h
  simp [World.cell?, h1] at hc
theorem MB.srow {W W' : World} {r : Nat} {ks : List Int} {a : Option Addr} {l : List ByteArray} (h : MB W r ks) (ho : Rg.Only r W W') (hr : SRow W a l) : SRow W' a l := by
  rcases hr with hr | ⟨b, o, h1, h2, h3⟩
  · exact .inl hr
  · match l, h3 with
    | [], _ => exact .inl rfl
    | x :: l, h3 => exact .inr ⟨b, o, h1, by rw [ho.size]; exact h2, h3.same (ho.block b (h.ne (str_at h3 (i := 0) (by simp))))⟩
theorem MB.nrow {W W' : World} {r : Nat} {ks : List Int} {a : Option Addr} {l : List Int} (h : MB W r ks) (ho : Rg.Only r W W') (hr : NRow W a l) : NRow W' a l := by
  rcases hr with hr | ⟨b, o, h1, h2, h3⟩
  · exact .inl hr
  · match l, h3 with
    | [], _ => exact .inl rfl
    | x :: l, h3 => exact .inr ⟨b, o, h1, by rw [ho.size]; exact h2, h3.same (ho.block b (h.ne (int_at h3 (i := 0) (by simp))))⟩
theorem MB.var {w W W' : World} {r V : Nat} {ks : List Int} {X : Wn.W} {a : Option Addr} {c : Nat} (h : MB W r ks) (ho : Rg.Only r W W') (hw : w.heap.size ≤ r) (hv : VarAt w W V X a c) : VarAt w W' V X a c :=
  ⟨hv.bk.same (ho.block V (h.ne (hv.bk.cell 0))), ⟨h.srow ho hv.wat.row, hv.wat.cap⟩, hv.bel.trans (ho.bel hw), hv.new⟩
theorem ack_v (w W : World) (V : Nat) (X : Wn.W) (a : Option Addr) (c : Nat) (k : Int) (h : VarAt w W V X a c) :
    Calls Try.prog 17 #[WV X a c, .int .i64 k] W fun e w' => ∃ a' c', e = .returned (.tuple #[WV (Wn.ack X k).1 a' c', .int .i64 ((Wn.ack X k).2 : Nat)]) ∧ Hid (VarAt w w' V X a c) ∧ Hid (WAt w' (Wn.ack X k).1 a' c') :=
  (ack_any X a c k W h.wat).mono fun _ _ ⟨a', c', h1, h2, h3⟩ => ⟨a', c', h1, h.below h3, h2⟩
theorem put_v (w W : World) (V : Nat) (X : Wn.W) (a : Option Addr) (c : Nat) (x : ByteArray) (h : VarAt w W V X a c) :
    Calls Try.prog 15 #[WV X a c, .string x] W fun e w' => ∃ a' c', e = .returned (.tuple #[WV (Wn.put X x).1 a' c', .int .i64 (Wn.put X x).2.1, .int .i64 ((Wn.put X x).2.2 : Nat)]) ∧ Hid (VarAt w w' V X a c) ∧ Hid (WAt w' (Wn.put X x).1 a' c') :=
  (put_any X a c x W h.wat).mono fun _ _ ⟨a', c', h1, h2, h3⟩ => ⟨a', c', h1, h.below h3, h2⟩
theorem nums_v (w W : World) (V : Nat) (X : Wn.W) (a : Option Addr) (c : Nat) (h : VarAt w W V X a c) :
    Calls Try.prog 21 #[WV X a c] W fun e w' => ∃ a' c', e = .returned (.slice a' (Wn.nums X).length c') ∧ Hid (NRow w' a' (Wn.nums X)) ∧ Hid (VarAt w w' V X a c) ∧ Hid (Below W.heap.size W w') :=
  (numbers_any X a c W).mono fun _ _ ⟨a', c', h1, h2, h3⟩ => ⟨a', c', h1, h2, h.below h3, h3⟩
namespace Wn
/-- what the statement asks of the numbers -/
structure NP (M Z : Int) (X : W) (Q : List Int) (q : Nat) : Prop where
  len : q = Q.length
  lx : q = X.l.length
  le : (q : Int) ≤ Z
  fresh : ∀ j (hj : j < Q.length), Q[j] ∉ Q.take j
  rng : ∀ j (hj : j < Q.length), 0 ≤ Q[j] ∧ Q[j] < M
theorem Row.np {M Z : Int} {p : Nat} {X : W} (h : Row M Z p X) : NP M Z X (nums X) (nums X).length := by
  have hp := rt_parts h.ok
  refine ⟨rfl, nums_len h.ok, by rw [nums_len h.ok, ← h.sz]; exact hp.2.2.2.2.2.2, fun j hj hm => ?_, fun j hj => ?_⟩
  · obtain ⟨i, hi, e⟩ := List.mem_take_iff_getElem.1 hm
    have hn := List.nodup_iff_pairwise_ne.1 (nums_nodup h.ok)
    have := List.pairwise_iff_getElem.1 hn i j (by omega) hj (by omega)
    exact this e
  · have := nums_rng h.ok _ (List.getElem_mem hj)
    rw [h.md] at this
    exact this
theorem Row.ack {M Z : Int} {p : Nat} {X : W} (h : Row M Z p X) (k : Int) : Row M Z p (ack X k).1 := by
  cases hp : place X k with
  | none => rw [show Wn.ack X k = (X, 0) by unfold Wn.ack; rw [hp]]; exact h
  | some K => rw [show (Wn.ack X k).1 = { X with bs := (k + 1) % X.md, l := X.l.drop (K + 1) } by unfold Wn.ack; rw [hp]]; exact row_ack h hp
end Wn
end Go.Proofs.Ytnglfefgcdbgmaa
