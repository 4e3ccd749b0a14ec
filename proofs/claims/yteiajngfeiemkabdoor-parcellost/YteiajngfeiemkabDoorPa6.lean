/-
  Walks of layer 13: rows of parcels; a file's sum.
-/
import Derived.Test.YteiajngfeiemkabDoorMathPa
import Derived.Test.YteiajngfeiemkabDoorPaU
import Derived.Test.YteiajngfeiemkabDoorTxt
import Derived.Test.YteiajngfeiemkabDoorCrc2
namespace Go.Proofs.YteiajngfeiemkabDoor
open Go.RowKit
def parE : Rg.El Pa.Pc := { enc := fun p => [.int .i64 p.tg, .string ⟨p.data.toArray⟩], m := 2, hm := fun _ => rfl, pos := by decide, one := fun x u hu => by simp at hu; rcases hu with rfl | rfl <;> rfl, ty := 34 }
theorem infoPar : (Tryd.prog.info? 34).map (fun i => (i.zero, i.size, i.bytes)) = some (some (.agg #[.int .i64 0, .string ByteArray.empty]), 2, 24) := by kernel_rfl
theorem infoPar' : ∃ i0, Tryd.prog.info? 34 = some i0 ∧ i0.zero = some (.agg #[.int .i64 0, .string ByteArray.empty]) ∧ i0.size = 2 ∧ i0.bytes = 24 := by
  have := infoPar
  cases h : Tryd.prog.info? 34 with
  | none => rw [h] at this; cases this
  | some i => rw [h] at this; simp only [Option.map_some, Option.some.injEq, Prod.mk.injEq] at this; exact ⟨i, rfl, this.1, this.2.1, this.2.2⟩
theorem par_at {W : World} {b o : Nat} {p : Pa.Pc} (h : Rg.At W b o (parE.enc p)) : W.cell? ⟨b, o, none⟩ = some (.int .i64 p.tg) ∧ W.cell? ⟨b, o + 1, none⟩ = some (.string ⟨p.data.toArray⟩) := ⟨h 0 _ rfl, h 1 _ rfl⟩

/-- nothing, or a row that is read -/
def PRow (W : World) (a : Option Addr) (l : List Pa.Pc) : Prop := l = [] ∨ ∃ b o, a = some ⟨b, o, none⟩ ∧ b < W.heap.size ∧ Rg.At W b o (parE.flat l)
theorem PRow.of {W : World} {a : Option Addr} {l : List Pa.Pc} (h : parE.Row W a l) : PRow W a l := by
  rcases h with ⟨_, h⟩ | h
  · exact .inl h
  · exact .inr h
theorem PRow.below {W W' : World} {a : Option Addr} {l : List Pa.Pc} (h : PRow W a l) (hb : Below W.heap.size W W') : PRow W' a l := by
  rcases h with h | ⟨b, o, h1, h2, h3⟩
  · exact .inl h
  · exact .inr ⟨b, o, h1, Nat.lt_of_lt_of_le h2 hb.size, h3.below hb h2⟩
/-- none, or a row of one's own -/
def PO (base : Nat) (W : World) (A : Option Addr) (cap : Nat) (S : List Pa.Pc) : Prop := (A = none ∧ S = [] ∧ cap = 0) ∨ ∃ g rest, A = some ⟨g, 0, none⟩ ∧ parE.Own base W g cap S rest
theorem PO.below {base : Nat} {W W' : World} {A : Option Addr} {cap : Nat} {S : List Pa.Pc} (h : PO base W A cap S) (hb : Below W.heap.size W W') : PO base W' A cap S := by
  rcases h with h | ⟨g, rest, h1, h2⟩
  · exact .inl h
  · exact .inr ⟨g, rest, h1, h2.below hb⟩
theorem PO.row {base : Nat} {W : World} {A : Option Addr} {cap : Nat} {S : List Pa.Pc} (h : PO base W A cap S) : parE.Row W A S := by
  rcases h with ⟨rfl, rfl, _⟩ | ⟨g, rest, rfl, h2⟩
  · exact .inl ⟨rfl, rfl⟩
  · exact h2.toRow
/-- append of one parcel, out of block ad -/
theorem PO.append {base : Nat} {W : World} {A : Option Addr} {cap : Nat} {S : List Pa.Pc} (h : PO base W A cap S) (x : Pa.Pc) (ad : Nat) (hx : Rg.At W ad 0 (parE.enc x)) (hB : base ≤ W.heap.size) (hS : S.length ≤ 10000) :
    ∃ v' W', (Builtin.append_ #[24, 24] 24 #[.slice A S.length cap, .slice (some ⟨ad, 0, none⟩) 1 1]).run Tryd.prog W = .ok v' W' ∧ ∃ A' cap', v' = .slice A' (S.length + 1) cap' ∧ PO base W' A' cap' (S ++ [x]) ∧ Below base W W' := by
  obtain ⟨i0, hi, hz0, hz1, hz2⟩ := infoPar'
  rcases h with ⟨rfl, rfl, rfl⟩ | ⟨g, rest, rfl, h⟩
  · obtain ⟨g', cap', rest', W', h1, h2, h3, h4⟩ := parE.append0 (P := Tryd.prog) W base x 24 24 i0 _ 24 Tryd.underlying24 hi hz0 hz1 hz2 rfl ⟨ad, 0, none⟩ 1 hx.add hB (by omega)
    exact ⟨_, W', h1, _, cap', rfl, .inr ⟨g', rest', rfl, h2⟩, h3.mono hB⟩
  · obtain ⟨g', cap', rest', W', h1, h2, _, h4, h5, h6⟩ := h.append (P := Tryd.prog) x 24 24 i0 _ 24 Tryd.underlying24 hi hz0 hz1 hz2 rfl ⟨ad, 0, none⟩ 1 hx.add hB (by omega) (by unfold maxLen; omega)
    exact ⟨_, W', h1, _, cap', rfl, .inr ⟨g', rest', rfl, h2⟩, h4⟩

set_option maxHeartbeats 1000000 in
theorem sumOf_any (s : ByteArray) (hs : s.size ≤ maxLen) (w : World) (htab : Lib.TabIs Tryd.prog w "internal/strconv.uint64pow10" .u64 Lib.pow10Tab) :
    Calls Tryd.prog 10 #[.string s] w fun e w' => e = .returned (.string ⟨(Pa.sum s.data.toList).toArray⟩) ∧ Below w.heap.size w w' := by
  have HC := crc_any s w hs
  have hlt := Pa.crc_lt s.data.toList
  have HT := text_any ((Pa.crc s.data.toList : Nat) : Int) w (by omega) (by omega) htab
  have hr : Hid (Pa.sum s.data.toList = Lib.itoa ((Pa.crc s.data.toList : Nat) : Int)) := rfl
  unfold Pa.crc at *
  generalize Chk.more 0 s.data.toList = C at *
  generalize Lib.itoa (C : Int) = I at *
  generalize Pa.sum s.data.toList = J at *
  clear htab
  go_enter Tryd.func10, Tryd.ntmps10
  go_wp2_with (first
    | (go_at_call 7; refine HC.mono ?_; rintro e w2 ⟨rfl, rfl⟩)
    | (go_at_call 20; refine HT.mono ?_; rintro e w2 ⟨rfl, b2⟩))
  go_ret
  exact ⟨by rw [hr.out]; rfl, b2⟩
end Go.Proofs.YteiajngfeiemkabDoor
