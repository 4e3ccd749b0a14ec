/-
  Layer 8: rows of texts; what a step's reader keeps in memory.
-/
import Derived.Test.YtpggnhnpphbaeaaDoorCh2
import Derived.Test.YtpggnhnpphbaeaaDoorMathI
namespace Go.Proofs.YtpggnhnpphbaeaaDoor
open Go.RowKit

def strE : Rg.El ByteArray := { enc := fun s => [.string s], m := 1, hm := fun _ => rfl, pos := by decide, one := fun x u hu => by simp at hu; subst hu; rfl, ty := 9 }
theorem infoStr : (Tryd.prog.info? 9).map (fun i => (i.zero, i.size, i.bytes)) = some (some (.string ByteArray.empty), 1, 16) := by kernel_rfl
theorem infoStr' : ∃ i0, Tryd.prog.info? 9 = some i0 ∧ i0.zero = some (.string ByteArray.empty) ∧ i0.size = 1 ∧ i0.bytes = 16 := by
  have h := infoStr
  cases e : Tryd.prog.info? 9 with
  | none => rw [e] at h; cases h
  | some i0 => rw [e] at h; simp at h; exact ⟨i0, rfl, h.1, h.2.1, h.2.2⟩
theorem str_flat (l : List ByteArray) : strE.flat l = l.map Value.string := by
  induction l with
  | nil => rfl
  | cons x l ih => rw [strE.flat_cons, ih]; rfl
theorem step_str : 28 ≠ 9 := by decide
theorem str_cell {W : World} {b o : Nat} {l : List ByteArray} (h : Rg.Tow strE W (some ⟨b, o, none⟩) l) {i : Nat} (hi : i < l.length) : W.cell? ⟨b, o + i, none⟩ = some (.string l[i]) := by
  have := h.elem hi
  have e := this 0 _ rfl
  rw [show strE.m = 1 from rfl, Nat.mul_one, Nat.add_zero] at e
  exact e
/-- what a step's reader keeps -/
structure AwAt (w : World) (base S R : Nat) (pa : Option Addr) (ps : List ByteArray) (ya : Option Addr) (yc : Nat) (ws : List ByteArray) (za : Option Addr) (zc : Nat) (ns : List ByteArray) (cs : List Value) (W : World) : Prop where
  bel : Below w.heap.size w W
  big : base ≤ W.heap.size
  step : Rg.Bk S cs 28 W
  res : Rg.Bk R [.slice none 0 0, .slice none 0 0, .string ⟨#[]⟩] 28 W
  rows : Rg.Sow strE base W ya yc ws
  rown : Rg.Sow strE base W za zc ns
  apart : ∀ g, ya = some ⟨g, 0, none⟩ → za = some ⟨g, 0, none⟩ → False
  parts : Rg.Tow strE W pa ps
  lowS : S < base ∧ w.heap.size ≤ S
  lowR : R < base ∧ w.heap.size ≤ R ∧ S ≠ R
  lowP : ∀ b o, pa = some ⟨b, o, none⟩ → b < base
theorem Tow_base {α : Type} {E : Rg.El α} {base : Nat} {W W' : World} {a : Option Addr} {l : List α} (h : Rg.Tow E W a l) (hl : ∀ b o, a = some ⟨b, o, none⟩ → b < base) (hb : Below base W W') : Rg.Tow E W' a l := by
  refine ⟨?_, fun b o e => ?_⟩
  · rcases h.1 with h1 | ⟨b, o, e, h1, h2⟩
    · exact .inl h1
    · exact .inr ⟨b, o, e, Nat.lt_of_lt_of_le h1 hb.size, h2.below hb (hl b o e)⟩
  · obtain ⟨C, k⟩ := h.2 b o e
    exact ⟨C, k.below hb (hl b o e)⟩
theorem AwAt.below {w : World} {base S R : Nat} {pa : Option Addr} {ps : List ByteArray} {ya : Option Addr} {yc : Nat} {ws : List ByteArray} {za : Option Addr} {zc : Nat} {ns : List ByteArray} {cs : List Value} {W W' : World} (h : AwAt w base S R pa ps ya yc ws za zc ns cs W) (hb : Below W.heap.size W W') : AwAt w base S R pa ps ya yc ws za zc ns cs W' :=
  ⟨Rg.chain h.bel hb, Nat.le_trans h.big hb.size, h.step.below hb h.step.lt, h.res.below hb h.res.lt, h.rows.below hb, h.rown.below hb, h.apart, h.parts.below hb, h.lowS, h.lowR, h.lowP⟩
/-- a store in the step -/
theorem AwAt.store {w : World} {base S R : Nat} {pa : Option Addr} {ps : List ByteArray} {ya : Option Addr} {yc : Nat} {ws : List ByteArray} {za : Option Addr} {zc : Nat} {ns : List ByteArray} {cs : List Value} {W : World} (h : AwAt w base S R pa ps ya yc ws za zc ns cs W) (i : Nat) (v : Value) : AwAt w base S R pa ps ya yc ws za zc ns (cs.set i v) (W.setCell ⟨S, i, none⟩ v) :=
  have o := Rg.Only.setCell W S i v
  ⟨h.bel.trans (o.bel h.lowS.2), by rw [o.size]; exact h.big, h.step.set i v, h.res.same (o.block R (Ne.symm h.lowR.2.2)), h.rows.only h.step step_str o, h.rown.only h.step step_str o, h.apart, h.parts.only h.step step_str o, h.lowS, h.lowR, h.lowP⟩
theorem AwAt.drew {w : World} {base S R : Nat} {pa : Option Addr} {ps : List ByteArray} {ya : Option Addr} {yc : Nat} {ws : List ByteArray} {za : Option Addr} {zc : Nat} {ns : List ByteArray} {cs : List Value} {W : World} (h : AwAt w base S R pa ps ya yc ws za zc ns cs W) : AwAt w base S R pa ps ya yc ws za zc ns cs W.drew := h.below ((Below.refl _ _).drew)
/-- one more that is waited for -/
theorem AwAt.want {w : World} {base S R : Nat} {pa : Option Addr} {ps : List ByteArray} {ya : Option Addr} {yc : Nat} {ws : List ByteArray} {za : Option Addr} {zc : Nat} {ns : List ByteArray} {cs : List Value} {W : World} (h : AwAt w base S R pa ps ya yc ws za zc ns cs W) (x : ByteArray) (ad : Nat) (hk : Rg.Bk ad [.string x] 9 W) (hlen : ws.length ≤ 1000000000) :
    ∃ a' cap' W', (Builtin.append_ #[26, 26] 26 #[.slice ya ws.length yc, .slice (some ⟨ad, 0, none⟩) 1 1]).run Tryd.prog W = .ok (.slice a' (ws.length + 1) cap') W' ∧ AwAt w base S R pa ps a' cap' (ws ++ [x]) za zc ns cs W' := by
  obtain ⟨i0, hi, hz0, hz1, hz2⟩ := infoStr'
  obtain ⟨a', cap', W', h1, h2, h3, h4, h5⟩ := h.rows.append (P := Tryd.prog) h.big x 26 26 i0 _ 16 Tryd.underlying26 hi hz0 hz1 hz2 rfl ad (fun t u ht => by rw [Nat.zero_add, hk.cell]; exact ht) (by omega) (by unfold maxLen; omega)
  refine ⟨a', cap', W', h1, ⟨h.bel.trans (h3.mono (Nat.le_trans h.lowS.2 (Nat.le_of_lt h.lowS.1))), Nat.le_trans h.big h3.size, h.step.below h3 h.lowS.1, h.res.below h3 h.lowR.1, h2, h.rown.same fun g e hg => h4 g hg (fun e2 => h.apart g e2 e), fun g e1 e2 => ?_, Tow_base h.parts h.lowP h3, h.lowS, h.lowR, h.lowP⟩⟩
  rcases h5 g e1 with e | e
  · exact h.apart g e e2
  · rcases h.rown with ⟨e3, _⟩ | ⟨g', rest, e3, ho⟩
    · rw [e3] at e2; cases e2
    · rw [e3] at e2; injection e2 with e2; injection e2 with e2; subst e2
      have := ho.lt; omega
/-- one more nudge -/
theorem AwAt.nudge {w : World} {base S R : Nat} {pa : Option Addr} {ps : List ByteArray} {ya : Option Addr} {yc : Nat} {ws : List ByteArray} {za : Option Addr} {zc : Nat} {ns : List ByteArray} {cs : List Value} {W : World} (h : AwAt w base S R pa ps ya yc ws za zc ns cs W) (x : ByteArray) (ad : Nat) (hk : Rg.Bk ad [.string x] 9 W) (hlen : ns.length ≤ 1000000000) :
    ∃ a' cap' W', (Builtin.append_ #[26, 26] 26 #[.slice za ns.length zc, .slice (some ⟨ad, 0, none⟩) 1 1]).run Tryd.prog W = .ok (.slice a' (ns.length + 1) cap') W' ∧ AwAt w base S R pa ps ya yc ws a' cap' (ns ++ [x]) cs W' := by
  obtain ⟨i0, hi, hz0, hz1, hz2⟩ := infoStr'
  obtain ⟨a', cap', W', h1, h2, h3, h4, h5⟩ := h.rown.append (P := Tryd.prog) h.big x 26 26 i0 _ 16 Tryd.underlying26 hi hz0 hz1 hz2 rfl ad (fun t u ht => by rw [Nat.zero_add, hk.cell]; exact ht) (by omega) (by unfold maxLen; omega)
  refine ⟨a', cap', W', h1, ⟨h.bel.trans (h3.mono (Nat.le_trans h.lowS.2 (Nat.le_of_lt h.lowS.1))), Nat.le_trans h.big h3.size, h.step.below h3 h.lowS.1, h.res.below h3 h.lowR.1, h.rows.same fun g e hg => h4 g hg (fun e2 => h.apart g e e2), h2, fun g e1 e2 => ?_, Tow_base h.parts h.lowP h3, h.lowS, h.lowR, h.lowP⟩⟩
  rcases h5 g e2 with e | e
  · exact h.apart g e1 e
  · rcases h.rows with ⟨e3, _⟩ | ⟨g', rest, e3, ho⟩
    · rw [e3] at e1; cases e1
    · rw [e3] at e1; injection e1 with e1; injection e1 with e1; subst e1
      have := ho.lt; omega
/-- behind the reader of a word that is waited for -/
def APost (w : World) (r : Option (List ByteArray × List ByteArray)) (e : Ending) (w' : World) : Prop := Below w.heap.size w w' ∧ match r with
  | none => e = .panicked [giveUp]
  | some (ws, ns) => ∃ a c b d, e = .returned (.agg #[.slice a ws.length c, .slice b ns.length d, .string ⟨#[]⟩]) ∧ Rg.Tow strE w' a ws ∧ ws.length ≤ c ∧ Rg.Tow strE w' b ns ∧ ns.length ≤ d
/-- the variable bytealg.MaxLen holds some number -/
def MaxIn (w : World) : Prop := ∃ m : Int, w.cell? ⟨2, 0, none⟩ = some (.int .i64 m)
theorem MaxIn.below {w w' : World} (h : MaxIn w) (hb : Below w.heap.size w w') : MaxIn w' := by
  obtain ⟨m, hm⟩ := h
  have hlt := World.block_lt_of_cell? _ _ hm
  exact ⟨m, by rw [hb.cell (p := ⟨2, 0, none⟩) hlt]; exact hm⟩
end Go.Proofs.YtpggnhnpphbaeaaDoor
