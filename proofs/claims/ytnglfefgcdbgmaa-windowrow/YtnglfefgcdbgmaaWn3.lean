/-
  Walks of layer 14: a window in memory; isRight, numberAt, placeOf, Find.
-/
import Derived.Test.YtnglfefgcdbgmaaWn2
namespace Go.Proofs.Ytnglfefgcdbgmaa
open Go.RowKit
/-- a text's cell -/
def strE : Rg.El ByteArray := { enc := fun s => [.string s], m := 1, hm := fun _ => rfl, pos := by decide, one := fun x u hu => by simp at hu; subst hu; rfl, ty := 9 }
theorem str_flat (l : List ByteArray) : strE.flat l = l.map Value.string := by
  induction l with
  | nil => rfl
  | cons x l ih => rw [strE.flat_cons, ih]; rfl
/-- nothing, or a row of texts that is read -/
def SRow (W : World) (a : Option Addr) (l : List ByteArray) : Prop := l = [] ∨ ∃ b o, a = some ⟨b, o, none⟩ ∧ b < W.heap.size ∧ Rg.At W b o (strE.flat l)
theorem SRow.nil {W : World} {a : Option Addr} : SRow W a [] := .inl rfl
theorem SRow.of {W : World} {a : Option Addr} {l : List ByteArray} (h : strE.Row W a l) : SRow W a l := by
  rcases h with ⟨_, h⟩ | h
  · exact .inl h
  · exact .inr h
theorem SRow.below {W W' : World} {a : Option Addr} {l : List ByteArray} (h : SRow W a l) (hb : Below W.heap.size W W') : SRow W' a l := by
  rcases h with h | ⟨b, o, h1, h2, h3⟩
  · exact .inl h
  · exact .inr ⟨b, o, h1, Nat.lt_of_lt_of_le h2 hb.size, h3.below hb h2⟩
theorem str_at {W : World} {b o : Nat} {l : List ByteArray} (h : Rg.At W b o (strE.flat l)) {i : Nat} (hi : i < l.length) : W.cell? ⟨b, o + i, none⟩ = some (.string l[i]) := by
  have e := (h.elem hi) 0 (.string l[i]) rfl
  rw [show strE.m = 1 from rfl, Nat.mul_one, Nat.add_zero] at e
  exact e
theorem SRow.cell {W : World} {a : Option Addr} {l : List ByteArray} (h : SRow W a l) {i : Nat} (hi : i < l.length) : ∃ b o, a = some ⟨b, o, none⟩ ∧ b < W.heap.size ∧ Rg.At W b o (strE.flat l) ∧ W.cell? ⟨b, o + i, none⟩ = some (.string l[i]) := by
  rcases h with rfl | ⟨b, o, rfl, hb, hat⟩
  · simp at hi
  · exact ⟨b, o, rfl, hb, hat, str_at hat hi⟩
/-- a window as a value -/
def WV (X : Wn.W) (a : Option Addr) (c : Nat) : Value := .agg #[.int .i64 X.md, .int .i64 X.sz, .int .i64 X.bs, .slice a X.l.length c]
/-- a window in memory: its list is a row, or nothing -/
structure WAt (W : World) (X : Wn.W) (a : Option Addr) (c : Nat) : Prop where
  row : SRow W a X.l
  cap : X.l.length ≤ c
theorem WAt.below {W W' : World} {X : Wn.W} {a : Option Addr} {c : Nat} (h : WAt W X a c) (hb : Below W.heap.size W W') : WAt W' X a c := ⟨h.row.below hb, h.cap⟩
/-- a row of texts stays where the cells of a window turn -/
theorem SRow.only {W W' : World} {a : Option Addr} {l : List ByteArray} {R : Nat} {m s b : Int} {v : Value} {ty : TypeId} (h : SRow W a l) (k : Rg.Bk R [.int .i64 m, .int .i64 s, .int .i64 b, v] ty W) (hv : ∀ x, v ≠ .string x) (ho : Rg.Only R W W') : SRow W' a l := by
  rcases h with h | h
  · exact .inl h
  · refine SRow.of (Rg.El.Row.only (E := strE) (.inr h) k 0 (by decide) ?_ ho)
    intro x u hu e
    have e2 : u = .string x := (Option.some.inj e).symm
    subst e2
    simp at hu
    exact hv x hu.symm
theorem WAt.only {W W' : World} {X : Wn.W} {a : Option Addr} {c : Nat} {R : Nat} {m s b : Int} {v : Value} {ty : TypeId} (h : WAt W X a c) (k : Rg.Bk R [.int .i64 m, .int .i64 s, .int .i64 b, v] ty W) (hv : ∀ x, v ≠ .string x) (ho : Rg.Only R W W') : WAt W' X a c := ⟨h.row.only k hv ho, h.cap⟩

set_option maxHeartbeats 1000000 in
set_option maxRecDepth 100000 in
theorem isRight_go (m s b : Int) (a : Option Addr) (n c : Nat) (bf bl : Bool) (HM : Hid (∀ w, Calls Try.prog 23 #[.int .i64 m, .int .i64 s, .int .i64 b] w fun e w' => e = .returned (.bool bf) ∧ w' = w)) (hl : decide ((n : Int) ≤ s) = bl) (w : World) :
    Calls Try.prog 27 #[.agg #[.int .i64 m, .int .i64 s, .int .i64 b, .slice a n c]] w fun e w' => e = .returned (.bool (bf && bl)) ∧ Below w.heap.size w w' := by
  cases bf with
  | false =>
    go_enter Try.func27, Try.ntmps27
    go_wp2_with (go_at_call 23; refine (HM.out _).mono ?_; rintro e w2 ⟨rfl, rfl⟩)
    go_ret
    exact ⟨rfl, Rg.al1 _ _⟩
  | true =>
    go_enter Try.func27, Try.ntmps27
    go_wp2_with (go_at_call 23; refine (HM.out _).mono ?_; rintro e w2 ⟨rfl, rfl⟩)
    go_ret
    exact ⟨rfl, Rg.al1 _ _⟩
theorem Wn.rt_bool (X : Wn.W) : (Wn.fitB X.md X.sz X.bs && decide ((X.l.length : Int) ≤ X.sz)) = Wn.rt X := by
  unfold Wn.fitB Wn.rt
  rw [← Bool.decide_and]
  apply decide_eq_decide.2
  omega
theorem isRight_any (X : Wn.W) (a : Option Addr) (c : Nat) (w : World) :
    Calls Try.prog 27 #[WV X a c] w fun e w' => e = .returned (.bool (Wn.rt X)) ∧ Below w.heap.size w w' := by
  rw [← Wn.rt_bool]
  exact isRight_go X.md X.sz X.bs a X.l.length c _ _ (mayBe_any _ _ _) rfl w
set_option maxHeartbeats 1000000 in
set_option maxRecDepth 100000 in
theorem numberAt_go (m s b p r : Int) (v : Value) (HO : Hid (∀ w, Calls Try.prog 26 #[.int .i64 b, .int .i64 p, .int .i64 m] w fun e w' => e = .returned (.int .i64 r) ∧ w' = w)) (w : World) :
    Calls Try.prog 28 #[.agg #[.int .i64 m, .int .i64 s, .int .i64 b, v], .int .i64 p] w fun e w' => e = .returned (.int .i64 r) ∧ Below w.heap.size w w' := by
  go_enter Try.func28, Try.ntmps28
  go_wp2_with (go_at_call 26; refine (HO.out _).mono ?_; rintro e w2 ⟨rfl, rfl⟩)
  go_ret
  exact ⟨rfl, Rg.al1 _ _⟩
theorem numberAt_any (X : Wn.W) (a : Option Addr) (c p : Nat) (hr : Wn.rt X = true) (hp : p ≤ 1000) (w : World) :
    Calls Try.prog 28 #[WV X a c, .int .i64 (p : Int)] w fun e w' => e = .returned (.int .i64 (Wn.num X p)) ∧ Below w.heap.size w w' := by
  obtain ⟨h1, h2, h3, h4, h5, h6, h7⟩ := Wn.rt_parts hr
  exact numberAt_go X.md X.sz X.bs p _ _ (onward_any _ _ _ (by omega) (by omega) (by omega) (by omega) (by omega) (by omega)) w
end Go.Proofs.Ytnglfefgcdbgmaa
