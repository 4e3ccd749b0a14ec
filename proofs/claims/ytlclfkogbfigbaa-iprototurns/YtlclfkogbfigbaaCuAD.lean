/-
  Walks of layer 14: mayBe; Begin, the program's and the document's; the document's Ahead. Walks of layer 14: a window in memory; isRight, numberAt, placeOf, Find. append of one element to a row of one's own, with what lies behind it; rows that stay. append of a row to a row of one's own. Walks of layer 15: a drive in memory; its rows of pieces, packets and places.
-/
import Derived.Test.YtlclfkogbfigbaaCuAC
import Derived.WalkMore
import Derived.Test.YtlclfkogbfigbaaCuAA
namespace Go.Proofs.Ytlclfkogbfigbaa
open Go.RowKit
set_option maxHeartbeats 1000000 in
theorem mayBe_go (m s b : Int) (bm b1 bs bb : Bool) (HM : Hid (∀ w, Calls Try.prog 92 #[.int .i64 m] w fun e w' => e = .returned (.bool bm) ∧ w' = w))
    (h1 : decide (1 ≤ s) = b1)
    (HA : Hid (∀ w, Calls Try.prog 93 #[.int .i64 s, .int .i64 m] w fun e w' => e = .returned (.bool bs) ∧ w' = w))
    (HB : Hid (∀ w, Calls Try.prog 93 #[.int .i64 b, .int .i64 m] w fun e w' => e = .returned (.bool bb) ∧ w' = w)) (w : World) :
    Calls Try.prog 82 #[.int .i64 m, .int .i64 s, .int .i64 b] w fun e w' => e = .returned (.bool (bm && (b1 && (bs && bb)))) ∧ w' = w := by
  cases bm with
  | false =>
    go_enter Try.func82, Try.ntmps82
    go_wp2_with (first
      | (go_at_call 92; refine (HM.out _).mono ?_; rintro e w2 ⟨rfl, rfl⟩))
    go_ret
    exact ⟨rfl, rfl⟩
  | true => cases b1 with
    | false =>
      go_enter Try.func82, Try.ntmps82
      go_wp2_with (first
        | (go_at_call 92; refine (HM.out _).mono ?_; rintro e w2 ⟨rfl, rfl⟩))
      go_ret
      exact ⟨rfl, rfl⟩
    | true => cases bs with
      | false =>
        go_enter Try.func82, Try.ntmps82
        go_wp2_with (first
          | (go_at_call 92; refine (HM.out _).mono ?_; rintro e w2 ⟨rfl, rfl⟩)
          | (go_at_call 93; refine (HA.out _).mono ?_; rintro e w2 ⟨rfl, rfl⟩))
        go_ret
        exact ⟨rfl, rfl⟩
      | true => cases bb with
        | false =>
          go_enter Try.func82, Try.ntmps82
          go_wp2_with (first
            | (go_at_call 92; refine (HM.out _).mono ?_; rintro e w2 ⟨rfl, rfl⟩)
            | (go_at_call 93; first | (with_reducible refine (HA.out _).mono ?_; rintro e w2 ⟨rfl, rfl⟩) | (with_reducible refine (HB.out _).mono ?_; rintro e w2 ⟨rfl, rfl⟩)))
          go_ret
          exact ⟨rfl, rfl⟩
        | true =>
          go_enter Try.func82, Try.ntmps82
          go_wp2_with (first
            | (go_at_call 92; refine (HM.out _).mono ?_; rintro e w2 ⟨rfl, rfl⟩)
            | (go_at_call 93; first | (with_reducible refine (HA.out _).mono ?_; rintro e w2 ⟨rfl, rfl⟩) | (with_reducible refine (HB.out _).mono ?_; rintro e w2 ⟨rfl, rfl⟩)))
          go_ret
          exact ⟨rfl, rfl⟩
def Wn.fitB (m s b : Int) : Bool := decide (2 ≤ m ∧ m ≤ 64 ∧ 1 ≤ s ∧ s < m ∧ 0 ≤ b ∧ b < m)
theorem Wn.fit_bool (m s b : Int) : (decide (2 ≤ m ∧ m ≤ 64) && (decide (1 ≤ s) && (decide (0 ≤ s ∧ s < m) && decide (0 ≤ b ∧ b < m)))) = Wn.fitB m s b := by
  unfold Wn.fitB
  rw [← Bool.decide_and, ← Bool.decide_and, ← Bool.decide_and]
  apply decide_eq_decide.2
  omega
theorem mayBe_any (m s b : Int) (w : World) : Calls Try.prog 82 #[.int .i64 m, .int .i64 s, .int .i64 b] w fun e w' => e = .returned (.bool (Wn.fitB m s b)) ∧ w' = w := by
  rw [← Wn.fit_bool]
  exact mayBe_go m s b _ _ _ _ (isMod_any m) rfl (below_any s m) (below_any b m) w
set_option maxHeartbeats 1000000 in
set_option maxRecDepth 100000 in
theorem begin_yes (m s b : Int) (w : World) (HM : Hid (∀ w, Calls Try.prog 82 #[.int .i64 m, .int .i64 s, .int .i64 b] w fun e w' => e = .returned (.bool true) ∧ w' = w)) :
    Calls Try.prog 75 #[.int .i64 m, .int .i64 s, .int .i64 b] w fun e w' => e = .returned (.tuple #[.agg #[.int .i64 m, .int .i64 s, .int .i64 b, .slice none 0 0], .int .i64 0]) ∧ Below w.heap.size w w' := by
  go_enter Try.func75, Try.ntmps75
  go_wp2_with (go_at_call 82; refine (HM.out _).mono ?_; rintro e w2 ⟨rfl, rfl⟩)
  exact bodyPost_ret (v := .tuple #[.agg #[.int .i64 m, .int .i64 s, .int .i64 b, .slice none 0 0], .int .i64 0]) (by simp [results, Try.results75, go_sem]) rfl ⟨rfl, Rg.al1 _ _⟩
set_option maxHeartbeats 1000000 in
set_option maxRecDepth 100000 in
theorem begin_no (m s b : Int) (w : World) (HM : Hid (∀ w, Calls Try.prog 82 #[.int .i64 m, .int .i64 s, .int .i64 b] w fun e w' => e = .returned (.bool false) ∧ w' = w)) :
    Calls Try.prog 75 #[.int .i64 m, .int .i64 s, .int .i64 b] w fun e w' => e = .returned (.tuple #[.agg #[.int .i64 0, .int .i64 0, .int .i64 0, .slice none 0 0], .int .i64 1]) ∧ Below w.heap.size w w' := by
  go_enter Try.func75, Try.ntmps75
  go_wp2_with (go_at_call 82; refine (HM.out _).mono ?_; rintro e w2 ⟨rfl, rfl⟩)
  exact bodyPost_ret (v := .tuple #[.agg #[.int .i64 0, .int .i64 0, .int .i64 0, .slice none 0 0], .int .i64 1]) (by simp [results, Try.results75, go_sem]) rfl ⟨rfl, Rg.al1 _ _⟩
/-- What Begin answers. -/
def BPost (w : World) (m s b : Int) (e : Ending) (w' : World) : Prop := e = .returned (.tuple #[.agg #[.int .i64 (Wn.begin_ m s b).1.md, .int .i64 (Wn.begin_ m s b).1.sz, .int .i64 (Wn.begin_ m s b).1.bs, .slice none 0 0], .int .i64 ((Wn.begin_ m s b).2 : Nat)]) ∧ Below w.heap.size w w'
theorem begin_any (m s b : Int) (w : World) : Calls Try.prog 75 #[.int .i64 m, .int .i64 s, .int .i64 b] w fun e w' => BPost w m s b e w' := by
  have HM := mayBe_any m s b
  unfold BPost
  by_cases h : Wn.fit m s b
  · rw [show Wn.fitB m s b = true from decide_eq_true h] at HM
    rw [show Wn.begin_ m s b = (⟨m, s, b, []⟩, 0) from if_pos h]
    exact begin_yes m s b w HM
  · rw [show Wn.fitB m s b = false from decide_eq_false h] at HM
    rw [show Wn.begin_ m s b = (Wn.zero, 1) from if_neg h]
    exact begin_no m s b w HM
end Go.Proofs.Ytlclfkogbfigbaa

namespace Go.Proofs.Ytlclfkogbfigbaa
open Go.RowKit
/-- a text's cell -/
def strE : Rg.El ByteArray := { enc := fun s => [.string s], m := 1, hm := fun _ => rfl, pos := by decide, one := fun x u hu => by simp at hu; subst hu; rfl, ty := 9 }
theorem str_flat (l : List ByteArray) : strE.flat l = l.map Value.string := by
  induction l with
  | nil => rfl
  | cons x l ih => rw [strE.flat_cons, ih]; rfl
/-- nothing, or a row of texts that is read -/
def SRow (W : World) (a : Option Addr) (l : List ByteArray) : Prop := l = [] ∨ ∃ b o, a = some ⟨b, o, none⟩ ∧ b < W.heap.size ∧ Rg.At W b o (strE.flat l)
theorem SRow.nil {W : World} {a : Option Addr} : SRow W a [] := .inl rfl
theorem SRow.of {W : World} {a : Option Addr} {l : List ByteArray} (h : strE.Row W a l) : SRow W a l := by
  rcases h with ⟨_, h⟩ | h
  · exact .inl h
  · exact .inr h
theorem SRow.below {W W' : World} {a : Option Addr} {l : List ByteArray} (h : SRow W a l) (hb : Below W.heap.size W W') : SRow W' a l := by
  rcases h with h | ⟨b, o, h1, h2, h3⟩
  · exact .inl h
  · exact .inr ⟨b, o, h1, Nat.lt_of_lt_of_le h2 hb.size, h3.below hb h2⟩
theorem str_at {W : World} {b o : Nat} {l : List ByteArray} (h : Rg.At W b o (strE.flat l)) {i : Nat} (hi : i < l.length) : W.cell? ⟨b, o + i, none⟩ = some (.string l[i]) := by
  have e := (h.elem hi) 0 (.string l[i]) rfl
  rw [show strE.m = 1 from rfl, Nat.mul_one, Nat.add_zero] at e
  exact e
theorem SRow.cell {W : World} {a : Option Addr} {l : List ByteArray} (h : SRow W a l) {i : Nat} (hi : i < l.length) : ∃ b o, a = some ⟨b, o, none⟩ ∧ b < W.heap.size ∧ Rg.At W b o (strE.flat l) ∧ W.cell? ⟨b, o + i, none⟩ = some (.string l[i]) := by
  rcases h with rfl | ⟨b, o, rfl, hb, hat⟩
  · simp at hi
  · exact ⟨b, o, rfl, hb, hat, str_at hat hi⟩
/-- a window as a value -/
def WV (X : Wn.W) (a : Option Addr) (c : Nat) : Value := .agg #[.int .i64 X.md, .int .i64 X.sz, .int .i64 X.bs, .slice a X.l.length c]
/-- a window in memory: its list is a row, or nothing -/
structure WAt (W : World) (X : Wn.W) (a : Option Addr) (c : Nat) : Prop where
  row : SRow W a X.l
  cap : X.l.length ≤ c
theorem WAt.below {W W' : World} {X : Wn.W} {a : Option Addr} {c : Nat} (h : WAt W X a c) (hb : Below W.heap.size W W') : WAt W' X a c := ⟨h.row.below hb, h.cap⟩
/-- a row of texts stays where the cells of a window turn -/
theorem SRow.only {W W' : World} {a : Option Addr} {l : List ByteArray} {R : Nat} {m s b : Int} {v : Value} {ty : TypeId} (h : SRow W a l) (k : Rg.Bk R [.int .i64 m, .int .i64 s, .int .i64 b, v] ty W) (hv : ∀ x, v ≠ .string x) (ho : Rg.Only R W W') : SRow W' a l := by
  rcases h with h | h
  · exact .inl h
  · refine SRow.of (Rg.El.Row.only (E := strE) (.inr h) k 0 (by decide) ?_ ho)
    intro x u hu e
    have e2 : u = .string x := (Option.some.inj e).symm
    subst e2
    simp at hu
    exact hv x hu.symm
theorem WAt.only {W W' : World} {X : Wn.W} {a : Option Addr} {c : Nat} {R : Nat} {m s b : Int} {v : Value} {ty : TypeId} (h : WAt W X a c) (k : Rg.Bk R [.int .i64 m, .int .i64 s, .int .i64 b, v] ty W) (hv : ∀ x, v ≠ .string x) (ho : Rg.Only R W W') : WAt W' X a c := ⟨h.row.only k hv ho, h.cap⟩

set_option maxHeartbeats 1000000 in
set_option maxRecDepth 100000 in
theorem isRight_go (m s b : Int) (a : Option Addr) (n c : Nat) (bf bl : Bool) (HM : Hid (∀ w, Calls Try.prog 82 #[.int .i64 m, .int .i64 s, .int .i64 b] w fun e w' => e = .returned (.bool bf) ∧ w' = w)) (hl : decide ((n : Int) ≤ s) = bl) (w : World) :
    Calls Try.prog 66 #[.agg #[.int .i64 m, .int .i64 s, .int .i64 b, .slice a n c]] w fun e w' => e = .returned (.bool (bf && bl)) ∧ Below w.heap.size w w' := by
  cases bf with
  | false =>
    go_enter Try.func66, Try.ntmps66
    go_wp2_with (go_at_call 82; refine (HM.out _).mono ?_; rintro e w2 ⟨rfl, rfl⟩)
    go_ret
    exact ⟨rfl, Rg.al1 _ _⟩
  | true =>
    go_enter Try.func66, Try.ntmps66
    go_wp2_with (go_at_call 82; refine (HM.out _).mono ?_; rintro e w2 ⟨rfl, rfl⟩)
    go_ret
    exact ⟨rfl, Rg.al1 _ _⟩
theorem Wn.rt_bool (X : Wn.W) : (Wn.fitB X.md X.sz X.bs && decide ((X.l.length : Int) ≤ X.sz)) = Wn.rt X := by
  unfold Wn.fitB Wn.rt
  rw [← Bool.decide_and]
  apply decide_eq_decide.2
  omega
theorem isRight_any (X : Wn.W) (a : Option Addr) (c : Nat) (w : World) :
    Calls Try.prog 66 #[WV X a c] w fun e w' => e = .returned (.bool (Wn.rt X)) ∧ Below w.heap.size w w' := by
  rw [← Wn.rt_bool]
  exact isRight_go X.md X.sz X.bs a X.l.length c _ _ (mayBe_any _ _ _) rfl w
set_option maxHeartbeats 1000000 in
set_option maxRecDepth 100000 in
theorem numberAt_go (m s b p r : Int) (v : Value) (HO : Hid (∀ w, Calls Try.prog 83 #[.int .i64 b, .int .i64 p, .int .i64 m] w fun e w' => e = .returned (.int .i64 r) ∧ w' = w)) (w : World) :
    Calls Try.prog 67 #[.agg #[.int .i64 m, .int .i64 s, .int .i64 b, v], .int .i64 p] w fun e w' => e = .returned (.int .i64 r) ∧ Below w.heap.size w w' := by
  go_enter Try.func67, Try.ntmps67
  go_wp2_with (go_at_call 83; refine (HO.out _).mono ?_; rintro e w2 ⟨rfl, rfl⟩)
  go_ret
  exact ⟨rfl, Rg.al1 _ _⟩
theorem numberAt_any (X : Wn.W) (a : Option Addr) (c p : Nat) (hr : Wn.rt X = true) (hp : p ≤ 1000) (w : World) :
    Calls Try.prog 67 #[WV X a c, .int .i64 (p : Int)] w fun e w' => e = .returned (.int .i64 (Wn.num X p)) ∧ Below w.heap.size w w' := by
  obtain ⟨h1, h2, h3, h4, h5, h6, h7⟩ := Wn.rt_parts hr
  exact numberAt_go X.md X.sz X.bs p _ _ (onward_any _ _ _ (by omega) (by omega) (by omega) (by omega) (by omega) (by omega)) w
end Go.Proofs.Ytlclfkogbfigbaa

namespace Go.Proofs.Ytlclfkogbfigbaa
namespace Rg
open Go.RowKit

theorem zero_mem {z : Array Value} {n : Nat} {u : Value} (h : u ∈ (Builtin.zeroCells z n).toList) : u ∈ z.toList := by
  unfold Builtin.zeroCells at h
  simp only [Array.toList_map, List.mem_map] at h
  obtain ⟨i, hi, rfl⟩ := h
  have hlt : i < n * z.size := by simpa using hi
  have hz : 0 < z.size := by
    rcases Nat.eq_zero_or_pos z.size with e | e
    · rw [e] at hlt; simp at hlt
    · exact e
  have hm : i % z.size < z.size := Nat.mod_lt _ hz
  rw [getElem!_pos z (i % z.size) hm]
  exact Array.mem_toList_iff.2 (Array.getElem_mem hm)

section
variable {α : Type} {E : El α} {P : Program}
theorem El.Own.append2 {base g cap : Nat} {W : World} {l : List α} {rest : List Value} (h : E.Own base W g cap l rest) (x : α) (t ty : TypeId) (i : TypeInfo) (z : Value) (bytes : Nat)
    (ht : P.underlying t = some (.slice E.ty)) (hi : P.info? E.ty = some i) (hz : i.zero = some z) (hsize : i.size = E.m) (hby : i.bytes = bytes) (hzs : z.cells.size = E.m)
    (a : Addr) (c : Nat) (hnews : ∀ j u, (E.enc x)[j]? = some u → W.cell? (a.add j) = some u) (hB : base ≤ W.heap.size) (hbig : (l.length + 1) * bytes ≤ 140737488355328) (hmax : l.length + 1 ≤ maxLen)
    (Q : Value → Prop) (hQ : ∀ u ∈ rest, Q u) (hQz : ∀ u ∈ z.cells.toList, Q u) :
    ∃ g' cap' rest' W', (Builtin.append_ #[t, t] ty #[.slice (Option.some ⟨g, 0, none⟩) l.length cap, .slice (Option.some a) 1 c]).run P W = .ok (.slice (Option.some ⟨g', 0, none⟩) (l.length + 1) cap') W' ∧
      E.Own base W' g' cap' (l ++ [x]) rest' ∧ (∀ u ∈ rest', Q u) ∧ Below base W W' ∧ (∀ k, k < W.heap.size → k ≠ g → W'.heap[k]? = W.heap[k]?) ∧ (g' = g ∨ W.heap.size ≤ g') := by
  have hnl : (E.enc x).length = 1 * E.m := by rw [E.hm, Nat.one_mul]
  by_cases hr : l.length + 1 ≤ cap
  · have hf := h.fit
    have hfit : l.length * i.size + (E.enc x).length ≤ (E.flat l ++ rest).toArray.size := by
      rw [hsize, hnl, ← Nat.add_mul, List.size_toArray]
      exact Nat.le_trans (Nat.mul_le_mul_right _ hr) hf
    have hrun := run_append_room (P := P) W t ty E.ty i ht hi g l.length cap _ h.blk a 1 c (E.enc x) (by rw [hsize]; exact hnl) hnews (E.one x) hr hfit
    have e : ((E.flat l ++ rest).toArray.toList.take (l.length * i.size) ++ E.enc x ++ (E.flat l ++ rest).toArray.toList.drop (l.length * i.size + (E.enc x).length)) = E.flat (l ++ [x]) ++ rest.drop E.m := by
      rw [hsize, E.hm, ← El.flat_length E l, El.flat_append, El.flat_one]
      show (E.flat l ++ rest).take _ ++ _ ++ (E.flat l ++ rest).drop _ = _
      rw [List.take_left, ← List.drop_drop, List.drop_left]
    rw [e] at hrun
    refine ⟨g, cap, rest.drop E.m, _, hrun, ⟨setRow_heap W g _ _ _ _ h.blk, h.new, by simpa using hr, h.max, ?_⟩, fun u hu => hQ u (List.mem_of_mem_drop hu), (Only.setRow W g _).bel h.new, fun k _ hk => setRow_other W g k _ hk, .inl rfl⟩
    have hrl : E.m ≤ rest.length := by
      rw [List.size_toArray, List.length_append, El.flat_length, hsize, E.hm] at hfit; omega
    have h2 := h.fit
    rw [List.length_append, El.flat_length] at h2
    rw [List.length_append, El.flat_length, List.length_drop, List.length_append, List.length_singleton, Nat.add_mul, Nat.one_mul]; omega
  · have hrun := run_append_grow (P := P) W t ty E.ty i z ht hi hz ⟨g, 0, none⟩ l.length cap (E.flat l) (by rw [hsize]; exact El.flat_length E l) h.row.add a 1 c (E.enc x) (by rw [hsize]; exact hnl) hnews (by omega) (by unfold maxLen at hmax; omega) (growslice_fits (by omega) (by rw [hby]; exact hbig))
    have hge := grownCap_ge W (l.length + 1) cap E.ty
    have hcm : grownCap W (l.length + 1) cap E.ty ≤ maxLen := grownCap_le_maxLen W (l.length + 1) cap E.ty hmax
    refine ⟨W.heap.size, _, (Builtin.zeroCells z.cells (grownCap W (l.length + 1) cap E.ty - (l.length + 1))).toList, _, hrun, ⟨?_, hB, by simpa using hge, hcm, ?_⟩, fun u hu => hQz u (zero_mem hu), ⟨rfl, rfl, rfl, by simp, fun k hk => Below.heap_alloc W.drew _ k (by show k < W.heap.size; omega)⟩, fun k hk _ => Below.heap_alloc W.drew _ k hk, .inr (Nat.le_refl _)⟩
    · rw [show W.heap.size = W.drew.heap.size from rfl, heap_alloc_new]
      refine congrArg (fun x => some (Obj.cells x E.ty (0, 0))) ?_
      apply Array.ext'
      rw [El.flat_append, El.flat_one]
      simp
    · have hzl : ∀ n, (Builtin.zeroCells z.cells n).toList.length = n * E.m := fun n => by rw [Array.length_toList, size_zeroCells, hzs]
      rw [List.length_append, El.flat_length, hzl, List.length_append, List.length_singleton, ← Nat.add_mul]
      exact Nat.mul_le_mul_right _ (by omega)
/-- a row stays where a block that has none of its cells turns, and others come -/
theorem El.Row.turned {W W' : World} {a : Option Addr} {l : List α} {R : Nat} {C : List Value} {ty : TypeId} (h : E.Row W a l) (k : Bk R C ty W) (t : Nat) (ht : t < E.m) (hC : ∀ x : α, ∀ u ∈ C, (E.enc x)[t]? ≠ Option.some u) (hs : W.heap.size ≤ W'.heap.size) (ho : ∀ j, j < W.heap.size → j ≠ R → W'.heap[j]? = W.heap[j]?) : E.Row W' a l := by
  rcases h with h | ⟨b, o, rfl, hb, hat⟩
  · exact .inl h
  · refine .inr ⟨b, o, rfl, Nat.lt_of_lt_of_le hb hs, ?_⟩
    by_cases e : b = R
    · subst e
      match l, hat with
      | [], _ => exact At.nil
      | x :: l, hat =>
        exfalso
        rw [El.flat_cons] at hat
        have hx : (E.enc x)[t]? = Option.some ((E.enc x)[t]'(by rw [E.hm]; exact ht)) := List.getElem?_eq_getElem _
        have := hat.left t _ hx
        rw [k.cell] at this
        exact hC x _ (List.mem_of_getElem? this) hx
    · exact hat.same (ho b hb e)
end
end Rg
end Go.Proofs.Ytlclfkogbfigbaa

namespace Go.Proofs.Ytlclfkogbfigbaa
namespace Rg
open Go.RowKit

section
variable {α : Type} {E : El α} {P : Program}
theorem El.Own.appendRow {base g cap : Nat} {W : World} {l : List α} {rest : List Value} (h : E.Own base W g cap l rest) (l2 : List α) (t ty : TypeId) (i : TypeInfo) (z : Value) (bytes : Nat)
    (ht : P.underlying t = some (.slice E.ty)) (hi : P.info? E.ty = some i) (hz : i.zero = some z) (hsize : i.size = E.m) (hby : i.bytes = bytes) (hzs : z.cells.size = E.m)
    (a : Option Addr) (c : Nat) (hrow : E.Row W a l2) (hB : base ≤ W.heap.size) (hbig : (l.length + l2.length) * bytes ≤ 140737488355328) (hmax : l.length + l2.length ≤ maxLen) :
    ∃ g' cap' rest' W', (Builtin.append_ #[t, t] ty #[.slice (Option.some ⟨g, 0, none⟩) l.length cap, .slice a l2.length c]).run P W = .ok (.slice (Option.some ⟨g', 0, none⟩) (l.length + l2.length) cap') W' ∧
      E.Own base W' g' cap' (l ++ l2) rest' ∧ Below base W W' ∧ (∀ k, k < W.heap.size → k ≠ g → W'.heap[k]? = W.heap[k]?) ∧ (g' = g ∨ W.heap.size ≤ g') := by
  rcases hrow with ⟨rfl, rfl⟩ | ⟨b, o, rfl, hb, hat⟩
  · refine ⟨g, cap, rest, W, ?_, by rw [List.append_nil]; exact h, Below.refl _ _, fun _ _ _ => rfl, .inl rfl⟩
    simp [Builtin.append_, run_underlying ht, sizeOf, typeInfo, hi, Builtin.lenOf, Builtin.firstCells, storeCells, h.le]
  have hnl : (E.flat l2).length = l2.length * E.m := El.flat_length E l2
  by_cases hr : l.length + l2.length ≤ cap
  · have hf := h.fit
    have hfit : l.length * i.size + (E.flat l2).length ≤ (E.flat l ++ rest).toArray.size := by
      rw [hsize, hnl, ← Nat.add_mul, List.size_toArray]
      exact Nat.le_trans (Nat.mul_le_mul_right _ hr) hf
    have hrun := run_append_room (P := P) W t ty E.ty i ht hi g l.length cap _ h.blk ⟨b, o, none⟩ l2.length c (E.flat l2) (by rw [hsize]; exact hnl) hat.add (E.flat_cells l2) hr hfit
    have e : ((E.flat l ++ rest).toArray.toList.take (l.length * i.size) ++ E.flat l2 ++ (E.flat l ++ rest).toArray.toList.drop (l.length * i.size + (E.flat l2).length)) = E.flat (l ++ l2) ++ rest.drop (E.flat l2).length := by
      rw [hsize, ← El.flat_length E l, El.flat_append]
      show (E.flat l ++ rest).take _ ++ _ ++ (E.flat l ++ rest).drop _ = _
      rw [List.take_left, ← List.drop_drop, List.drop_left]
    rw [e] at hrun
    refine ⟨g, cap, rest.drop (E.flat l2).length, _, hrun, ⟨setRow_heap W g _ _ _ _ h.blk, h.new, by simpa using hr, h.max, ?_⟩, (Only.setRow W g _).bel h.new, fun k _ hk => setRow_other W g k _ hk, .inl rfl⟩
    have hrl : (E.flat l2).length ≤ rest.length := by
      rw [List.size_toArray, List.length_append, El.flat_length E l, hsize] at hfit; omega
    have h2 := h.fit
    rw [List.length_append] at h2
    rw [List.length_append, El.flat_append, List.length_append, List.length_drop]; omega
  · have hrun := run_append_grow (P := P) W t ty E.ty i z ht hi hz ⟨g, 0, none⟩ l.length cap (E.flat l) (by rw [hsize]; exact El.flat_length E l) h.row.add ⟨b, o, none⟩ l2.length c (E.flat l2) (by rw [hsize]; exact hnl) hat.add (by omega) (by unfold maxLen at hmax; omega) (growslice_fits (by omega) (by rw [hby]; exact hbig))
    have hge := grownCap_ge W (l.length + l2.length) cap E.ty
    have hcm : grownCap W (l.length + l2.length) cap E.ty ≤ maxLen := grownCap_le_maxLen W (l.length + l2.length) cap E.ty hmax
    refine ⟨W.heap.size, _, (Builtin.zeroCells z.cells (grownCap W (l.length + l2.length) cap E.ty - (l.length + l2.length))).toList, _, hrun, ⟨?_, hB, by simpa using hge, hcm, ?_⟩, ⟨rfl, rfl, rfl, by simp, fun k hk => Below.heap_alloc W.drew _ k (by show k < W.heap.size; omega)⟩, fun k hk _ => Below.heap_alloc W.drew _ k hk, .inr (Nat.le_refl _)⟩
    · rw [show W.heap.size = W.drew.heap.size from rfl, heap_alloc_new]
      refine congrArg (fun x => some (Obj.cells x E.ty (0, 0))) ?_
      apply Array.ext'
      rw [El.flat_append]
      simp
    · have hzl : ∀ n, (Builtin.zeroCells z.cells n).toList.length = n * E.m := fun n => by rw [Array.length_toList, size_zeroCells, hzs]
      rw [List.length_append, El.flat_length, hzl, List.length_append, ← Nat.add_mul]
      exact Nat.mul_le_mul_right _ (by omega)
end
end Rg
end Go.Proofs.Ytlclfkogbfigbaa

namespace Go.Proofs.Ytlclfkogbfigbaa
open Go.RowKit
/-- a piece's cells -/
def pcE : Rg.El Gp.Pc := { enc := fun p => [.int .i64 p.ch, .string p.data], m := 2, hm := fun _ => rfl, pos := by decide, one := fun x u hu => by simp at hu; rcases hu with rfl | rfl <;> rfl, ty := 42 }
/-- the cells of a packet of the protocol i -/
def fiE : Rg.El Gp.Fi := { enc := fun f => [.int .i64 f.kd, .int .i64 f.nm, .int .i64 f.ak, .int .i64 f.ch, .bool f.ca, .string f.data], m := 6, hm := fun _ => rfl, pos := by decide, one := fun x u hu => by simp at hu; rcases hu with rfl | rfl | rfl | rfl | rfl | rfl <;> rfl, ty := 63 }
/-- the cells of places -/
def spE : Rg.El (Int × Int) := { enc := fun p => [.int .i64 p.1, .int .i64 p.2], m := 2, hm := fun _ => rfl, pos := by decide, one := fun x u hu => by simp at hu; rcases hu with rfl | rfl <;> rfl, ty := 68 }
/-- nothing, or a row that is read -/
def ERow {α : Type} (E : Rg.El α) (W : World) (a : Option Addr) (l : List α) : Prop := l = [] ∨ ∃ b o, a = some ⟨b, o, none⟩ ∧ b < W.heap.size ∧ Rg.At W b o (E.flat l)
theorem ERow.nil {α : Type} {E : Rg.El α} {W : World} {a : Option Addr} : ERow E W a [] := .inl rfl
theorem ERow.of {α : Type} {E : Rg.El α} {W : World} {a : Option Addr} {l : List α} (h : E.Row W a l) : ERow E W a l := by
  rcases h with ⟨_, h⟩ | h
  · exact .inl h
  · exact .inr h
theorem ERow.below {α : Type} {E : Rg.El α} {W W' : World} {a : Option Addr} {l : List α} (h : ERow E W a l) (hb : Below W.heap.size W W') : ERow E W' a l := by
  rcases h with h | ⟨b, o, h1, h2, h3⟩
  · exact .inl h
  · exact .inr ⟨b, o, h1, Nat.lt_of_lt_of_le h2 hb.size, h3.below hb h2⟩
theorem ERow.cell {α : Type} {E : Rg.El α} {W : World} {a : Option Addr} {l : List α} (h : ERow E W a l) {i : Nat} (hi : i < l.length) : ∃ b o, a = some ⟨b, o, none⟩ ∧ b < W.heap.size ∧ Rg.At W b o (E.flat l) ∧ Rg.At W b (o + i * E.m) (E.enc l[i]) := by
  rcases h with rfl | ⟨b, o, rfl, hb, hat⟩
  · simp at hi
  · exact ⟨b, o, rfl, hb, hat, hat.elem hi⟩
theorem SRow.e {W : World} {a : Option Addr} {l : List ByteArray} (h : SRow W a l) : ERow strE W a l := h
theorem pc_at {W : World} {b o : Nat} {p : Gp.Pc} (h : Rg.At W b o (pcE.enc p)) : W.cell? ⟨b, o, none⟩ = some (.int .i64 p.ch) ∧ W.cell? ⟨b, o + 1, none⟩ = some (.string p.data) := ⟨h 0 _ rfl, h 1 _ rfl⟩
theorem sp_at {W : World} {b o : Nat} {p : Int × Int} (h : Rg.At W b o (spE.enc p)) : W.cell? ⟨b, o, none⟩ = some (.int .i64 p.1) ∧ W.cell? ⟨b, o + 1, none⟩ = some (.int .i64 p.2) := ⟨h 0 _ rfl, h 1 _ rfl⟩
theorem fi_at {W : World} {b o : Nat} {f : Gp.Fi} (h : Rg.At W b o (fiE.enc f)) : W.cell? ⟨b, o, none⟩ = some (.int .i64 f.kd) ∧ W.cell? ⟨b, o + 1, none⟩ = some (.int .i64 f.nm) ∧ W.cell? ⟨b, o + 2, none⟩ = some (.int .i64 f.ak) ∧ W.cell? ⟨b, o + 3, none⟩ = some (.int .i64 f.ch) ∧ W.cell? ⟨b, o + 4, none⟩ = some (.bool f.ca) ∧ W.cell? ⟨b, o + 5, none⟩ = some (.string f.data) := ⟨h 0 _ rfl, h 1 _ rfl, h 2 _ rfl, h 3 _ rfl, h 4 _ rfl, h 5 _ rfl⟩
/-- where a drive's lists lie -/
structure Pl where
  w : Option Addr
  wc : Nat
  a : Option Addr
  ac : Nat
  q : Option Addr
  qc : Nat
  t : Option Addr
  tc : Nat
/-- a drive's cells -/
def DC (d : Gp.Dr) (p : Pl) : List Value := [.int .i64 d.letter, .int .i64 d.phase, .bool d.caller, .int .i64 d.step, .int .i64 d.size, .int .i64 d.room, .int .i64 d.win.md, .int .i64 d.win.sz, .int .i64 d.win.bs, .slice p.w d.win.l.length p.wc, .int .i64 d.wants, .slice p.a d.ahead.length p.ac, .string ⟨d.buf.toArray⟩, .int .i64 d.at_, .slice p.q d.queue.length p.qc, .int .i64 d.wait, .int .i64 d.tries, .slice p.t d.took.length p.tc]
/-- a drive as a value: one row of cells, the window's among them -/
def DV (d : Gp.Dr) (p : Pl) : Value := .agg #[.int .i64 d.letter, .int .i64 d.phase, .bool d.caller, .int .i64 d.step, .int .i64 d.size, .int .i64 d.room, .int .i64 d.win.md, .int .i64 d.win.sz, .int .i64 d.win.bs, .slice p.w d.win.l.length p.wc, .int .i64 d.wants, .slice p.a d.ahead.length p.ac, .string ⟨d.buf.toArray⟩, .int .i64 d.at_, .slice p.q d.queue.length p.qc, .int .i64 d.wait, .int .i64 d.tries, .slice p.t d.took.length p.tc]
/-- a drive's lists are rows, or nothing -/
structure DAt (W : World) (d : Gp.Dr) (p : Pl) : Prop where
  win : SRow W p.w d.win.l
  ahead : ERow fiE W p.a d.ahead
  queue : ERow pcE W p.q d.queue
  took : ERow spE W p.t d.took
theorem DAt.below {W W' : World} {d : Gp.Dr} {p : Pl} (h : DAt W d p) (hb : Below W.heap.size W W') : DAt W' d p := ⟨h.win.below hb, h.ahead.below hb, h.queue.below hb, h.took.below hb⟩
end Go.Proofs.Ytlclfkogbfigbaa
