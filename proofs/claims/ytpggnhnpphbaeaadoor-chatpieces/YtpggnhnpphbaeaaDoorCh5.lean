/-
  Layer 8: steps in memory.
-/
import Derived.Test.YtpggnhnpphbaeaaDoorCh3
namespace Go.Proofs.YtpggnhnpphbaeaaDoor
open Go.RowKit

namespace Rg
section
variable {α : Type} {E : El α}
/-- a store in an element of a row of one's own -/
theorem Sow.put {base cap g : Nat} {W : World} {l : List α} (h : Sow E base W (some ⟨g, 0, none⟩) cap l) {k t : Nat} (hk : k < l.length) (ht : t < E.m) (v : Value) (x' : α) (hx : E.enc x' = (E.enc l[k]).set t v) : Sow E base (W.setCell ⟨g, k * E.m + t, none⟩ v) (some ⟨g, 0, none⟩) cap (l.set k x') := by
  rcases h with ⟨e, _⟩ | ⟨g', rest, e, h⟩
  · cases e
  · injection e with e
    injection e with e
    subst e
    refine .inr ⟨g, rest, rfl, h.re (h.set1 (k * E.m + t) v) ?_ (by rw [List.length_set]; exact h.le) (by rw [List.length_set])⟩
    rw [El.flat_set E hk ht rest v, El.flat_put E hk rest x', hx]
/-- a row stays where blocks of its type do -/
theorem Tow.stay {W W' : World} {a x : Option Addr} {l : List α} {ty : TypeId} (h : Tow E W a l) (hsz : W.heap.size ≤ W'.heap.size) (hs : ∀ k, k < W.heap.size → x ≠ some ⟨k, 0, none⟩ → W'.heap[k]? = W.heap[k]?) (hx : ∀ g, x = some ⟨g, 0, none⟩ → ∃ C, Bk g C ty W) (hty : ty ≠ E.ty) : Tow E W' a l := by
  have hne : ∀ b o, a = some ⟨b, o, none⟩ → x ≠ some ⟨b, 0, none⟩ := fun b o e e2 => by
    obtain ⟨C', k'⟩ := h.2 b o e
    obtain ⟨C, k⟩ := hx b e2
    unfold Bk at k k'
    rw [k] at k'
    injection k' with k'
    injection k' with _ k' _
    exact hty k'
  refine ⟨?_, fun b o e => ?_⟩
  · rcases h.1 with h1 | ⟨b, o, e, h1, h2⟩
    · exact .inl h1
    · exact .inr ⟨b, o, e, Nat.lt_of_lt_of_le h1 hsz, h2.same (hs b h1 (hne b o e))⟩
  · obtain ⟨C', k'⟩ := h.2 b o e
    exact ⟨C', k'.same (hs b k'.lt (hne b o e))⟩
theorem Sow.typed {base cap : Nat} {W : World} {a : Option Addr} {l : List α} (h : Sow E base W a cap l) : ∀ g, a = some ⟨g, 0, none⟩ → ∃ C, Bk g C E.ty W := fun g e => by
  rcases h with ⟨e2, _⟩ | ⟨g', rest, e2, h⟩
  · rw [e2] at e; cases e
  · rw [e2] at e
    injection e with e
    injection e with e
    subst e
    exact ⟨_, h.blk⟩
theorem Sow.cell {base cap g : Nat} {W : World} {l : List α} (h : Sow E base W (some ⟨g, 0, none⟩) cap l) {k t : Nat} (hk : k < l.length) (ht : t < E.m) : W.cell? ⟨g, k * E.m + t, none⟩ = (E.enc l[k])[t]? := by
  rcases h with ⟨e, _⟩ | ⟨g', rest, e, h⟩
  · cases e
  · injection e with e
    injection e with e
    subst e
    rw [h.cell, El.flat_get E hk ht]
theorem Sow.thaw {base cap g : Nat} {W : World} {l : List α} (h : Sow E base W (some ⟨g, 0, none⟩) cap l) (i : Nat) : W.frozen? ⟨g, i, none⟩ = false := by
  rcases h with ⟨e, _⟩ | ⟨g', rest, e, h⟩
  · cases e
  · injection e with e
    injection e with e
    subst e
    exact h.thaw i
theorem Sow.own {base cap g : Nat} {W : World} {l : List α} (h : Sow E base W (some ⟨g, 0, none⟩) cap l) : base ≤ g := by
  rcases h with ⟨e, _⟩ | ⟨g', rest, e, h⟩
  · cases e
  · injection e with e
    injection e with e
    subst e
    exact h.new
theorem Sow.place {base cap : Nat} {W : World} {a : Option Addr} {l : List α} (h : Sow E base W a cap l) {i : Nat} (hi : i < l.length) : ∃ g, a = some ⟨g, 0, none⟩ := by
  rcases h with ⟨_, rfl, _⟩ | ⟨g, rest, e, h⟩
  · simp at hi
  · exact ⟨g, e⟩
end
end Rg
/-- a step's cells -/
structure SV where
  a : Option Addr
  n : Nat
  c : Nat
  b : Option Addr
  m : Nat
  d : Nat
  s : ByteArray
def stepE : Rg.El SV := { enc := fun v => [.slice v.a v.n v.c, .slice v.b v.m v.d, .string v.s], m := 3, hm := fun _ => rfl, pos := by decide, one := fun x u hu => by simp at hu; rcases hu with rfl | rfl | rfl <;> rfl, ty := 28 }
theorem infoStep : (Tryd.prog.info? 28).map (fun i => (i.zero, i.size, i.bytes)) = some (some (.agg #[.slice none 0 0, .slice none 0 0, .string ByteArray.empty]), 3, 64) := by kernel_rfl
theorem infoStep' : ∃ i0, Tryd.prog.info? 28 = some i0 ∧ i0.zero = some (.agg #[.slice none 0 0, .slice none 0 0, .string ByteArray.empty]) ∧ i0.size = 3 ∧ i0.bytes = 64 := by
  have h := infoStep
  cases e : Tryd.prog.info? 28 with
  | none => rw [e] at h; cases h
  | some i0 => rw [e] at h; simp at h; exact ⟨i0, rfl, h.1, h.2.1, h.2.2⟩
/-- a step in memory -/
structure StAt (W : World) (v : SV) (x : Ch.St) : Prop where
  n : v.n = x.wants.length
  wants : Rg.Tow strE W v.a x.wants
  nc : v.n ≤ v.c
  m : v.m = x.nudge.length
  nudge : Rg.Tow strE W v.b x.nudge
  md : v.m ≤ v.d
  s : v.s = x.send
theorem StAt.below {W W' : World} {v : SV} {x : Ch.St} (h : StAt W v x) (hb : Below W.heap.size W W') : StAt W' v x := ⟨h.n, h.wants.below hb, h.nc, h.m, h.nudge.below hb, h.md, h.s⟩
/-- steps in memory, one by one -/
def StsAt (W : World) : List SV → List Ch.St → Prop
  | [], [] => True
  | v :: vs, x :: xs => StAt W v x ∧ StsAt W vs xs
  | _, _ => False
theorem StsAt.imp {W W' : World} (f : ∀ v x, StAt W v x → StAt W' v x) : ∀ {vs : List SV} {xs : List Ch.St}, StsAt W vs xs → StsAt W' vs xs
  | [], [], _ => trivial
  | v :: vs, x :: xs, h => ⟨f v x h.1, StsAt.imp f h.2⟩
  | [], _ :: _, h => by cases h
  | _ :: _, [], h => by cases h
theorem StsAt.below {W W' : World} {vs : List SV} {xs : List Ch.St} (h : StsAt W vs xs) (hb : Below W.heap.size W W') : StsAt W' vs xs := h.imp fun _ _ q => q.below hb
theorem StsAt.only {W W' : World} {vs : List SV} {xs : List Ch.St} {R : Nat} {C : List Value} {ty : TypeId} (h : StsAt W vs xs) (k : Rg.Bk R C ty W) (hty : ty ≠ 9) (ho : Rg.Only R W W') : StsAt W' vs xs := h.imp fun _ _ q => ⟨q.n, q.wants.only k hty ho, q.nc, q.m, q.nudge.only k hty ho, q.md, q.s⟩
theorem StsAt.stay {W W' : World} {vs : List SV} {xs : List Ch.St} {y : Option Addr} {ty : TypeId} (h : StsAt W vs xs) (hsz : W.heap.size ≤ W'.heap.size) (hs : ∀ k, k < W.heap.size → y ≠ some ⟨k, 0, none⟩ → W'.heap[k]? = W.heap[k]?) (hx : ∀ g, y = some ⟨g, 0, none⟩ → ∃ C, Rg.Bk g C ty W) (hty : ty ≠ 9) : StsAt W' vs xs := h.imp fun _ _ q => ⟨q.n, q.wants.stay hsz hs hx hty, q.nc, q.m, q.nudge.stay hsz hs hx hty, q.md, q.s⟩
theorem StsAt.len {W : World} : ∀ {vs : List SV} {xs : List Ch.St}, StsAt W vs xs → vs.length = xs.length
  | [], [], _ => rfl
  | _ :: vs, _ :: xs, h => by simp [StsAt.len h.2]
  | [], _ :: _, h => by cases h
  | _ :: _, [], h => by cases h
theorem StsAt.add {W : World} {v : SV} {x : Ch.St} (hv : StAt W v x) : ∀ {vs : List SV} {xs : List Ch.St}, StsAt W vs xs → StsAt W (vs ++ [v]) (xs ++ [x])
  | [], [], _ => ⟨hv, trivial⟩
  | _ :: vs, _ :: xs, h => ⟨h.1, StsAt.add hv h.2⟩
  | [], _ :: _, h => by cases h
  | _ :: _, [], h => by cases h
theorem StsAt.get {W : World} : ∀ {vs : List SV} {xs : List Ch.St} (_ : StsAt W vs xs) (i : Nat) (h1 : i < vs.length) (h2 : i < xs.length), StAt W vs[i] xs[i]
  | v :: vs, x :: xs, h, 0, _, _ => h.1
  | v :: vs, x :: xs, h, i + 1, h1, h2 => StsAt.get h.2 i (by simpa using h1) (by simpa using h2)
  | [], _ :: _, h, _, _, _ => by cases h
  | _ :: _, [], h, _, _, _ => by cases h
  | [], [], _, _, h, _ => by simp at h
theorem StsAt.put {W : World} {v : SV} {x : Ch.St} (hv : StAt W v x) : ∀ {vs : List SV} {xs : List Ch.St} (_ : StsAt W vs xs) (i : Nat), StsAt W (vs.set i v) (xs.set i x)
  | [], [], _, _ => trivial
  | _ :: vs, _ :: xs, h, 0 => ⟨hv, h.2⟩
  | _ :: vs, _ :: xs, h, i + 1 => ⟨h.1, StsAt.put hv h.2 i⟩
  | [], _ :: _, h, _ => by cases h
  | _ :: _, [], h, _ => by cases h
/-- behind the reader of words -/
def WPost (w : World) (r : Option (List Ch.St)) (e : Ending) (w' : World) : Prop := Below w.heap.size w w' ∧ match r with
  | none => e = .panicked [giveUp]
  | some xs => ∃ a c vs, e = .returned (.slice a xs.length c) ∧ Rg.Tow stepE w' a vs ∧ StsAt w' vs xs ∧ xs.length ≤ c
/-- append of one step -/
theorem app_step {base cap : Nat} {W : World} {a : Option Addr} {l : List SV} (h : Rg.Sow stepE base W a cap l) (hB : base ≤ W.heap.size) (v : SV) (ad : Nat) (hk : Rg.Bk ad (stepE.enc v) 28 W) (hlen : l.length ≤ 1000000000) :
    ∃ a' cap' W', (Builtin.append_ #[22, 22] 22 #[.slice a l.length cap, .slice (some ⟨ad, 0, none⟩) 1 1]).run Tryd.prog W = .ok (.slice a' (l.length + 1) cap') W' ∧ Rg.Sow stepE base W' a' cap' (l ++ [v]) ∧ Below base W W' ∧ (∀ k, k < W.heap.size → a ≠ some ⟨k, 0, none⟩ → W'.heap[k]? = W.heap[k]?) := by
  obtain ⟨i0, hi, hz0, hz1, hz2⟩ := infoStep'
  obtain ⟨a', cap', W', h1, h2, h3, h4, _⟩ := h.append (P := Tryd.prog) hB v 22 22 i0 _ 64 Tryd.underlying22 hi hz0 hz1 hz2 rfl ad (fun t u ht => by rw [Nat.zero_add, hk.cell]; exact ht) (by omega) (by unfold maxLen; omega)
  exact ⟨a', cap', W', h1, h2, h3, h4⟩
end Go.Proofs.YtpggnhnpphbaeaaDoor
