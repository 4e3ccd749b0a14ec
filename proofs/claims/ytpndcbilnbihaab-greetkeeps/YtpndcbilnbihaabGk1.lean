/-
  Layer 9: a line that is typed (mathematics of GreetKeeps), and rows of texts that are put behind one another.
-/
import Derived.Test.YtpndcbilnbihaabGreArg
import Derived.Test.YtpndcbilnbihaabRowJ
namespace Go.Proofs.Ytpndcbilnbihaab
open Go.RowKit

namespace Gr
/-- a text that may be typed as a line -/
def fine (s : ByteArray) : Prop := (∀ c ∈ s.data.toList, c ≠ 13 ∧ c ≠ 10) ∧ s.size ≤ 60
theorem put_small {d : D} {c : UInt8} (h : d.typed.size < 60) : put c d = { d with typed := d.typed ++ ⟨#[c]⟩ } := by unfold put; rw [if_pos h]
theorem cat_cons (a : ByteArray) (c : UInt8) (r : List UInt8) : (a ++ ⟨#[c]⟩) ++ ⟨r.toArray⟩ = a ++ ⟨(c :: r).toArray⟩ := by
  apply ByteArray.ext; simp only [ByteArray.data_append]; apply Array.toList_inj.1; simp
theorem cat_nil (a : ByteArray) : a ++ ⟨([] : List UInt8).toArray⟩ = a := by
  apply ByteArray.ext; simp only [ByteArray.data_append]; apply Array.toList_inj.1; simp
theorem typed_run (login pw : ByteArray) (m : List UInt8) : ∀ (l : List UInt8) (d : D), (d.stage = 0 ∨ d.stage = 1) → (∀ c ∈ l, c ≠ 13 ∧ c ≠ 10) → d.typed.size + l.length ≤ 60 →
    typeL login pw (l ++ m) d = typeL login pw m { d with typed := d.typed ++ ⟨l.toArray⟩ }
  | [], d, _, _, _ => by rw [List.nil_append, cat_nil]
  | c :: r, d, hs, hc, hl => by
    have h1 := hc c (by simp)
    rw [List.length_cons] at hl
    rw [List.cons_append, type_put hs (fun h => h.elim h1.1 h1.2), put_small (by omega), typed_run login pw m r { d with typed := d.typed ++ ⟨#[c]⟩ } hs (fun x hx => hc x (by simp [hx])) (by
      show (d.typed ++ ⟨#[c]⟩).size + r.length ≤ 60
      rw [ByteArray.size_append]
      have : (⟨#[c]⟩ : ByteArray).size = 1 := rfl
      omega)]
    show typeL login pw m { d with typed := (d.typed ++ ⟨#[c]⟩) ++ ⟨r.toArray⟩ } = _
    rw [cat_cons]
/-- what is kept between lines -/
structure KInv (d : D) (was : ByteArray) (i : Nat) : Prop where
  good : Good d
  typed : d.typed = ⟨#[]⟩
  stage : d.stage = 0 ∨ d.stage = 1 ∨ d.stage = 3
  name : d.stage = 1 → d.name = was ∧ 0 < i
theorem kinv_zero : KInv ⟨0, ⟨#[]⟩, ⟨#[]⟩, 0⟩ ⟨#[]⟩ 0 := ⟨good_zero, rfl, Or.inl rfl, fun h => by simp at h⟩
theorem lined_eq (login pw s : ByteArray) (d : D) (ht : d.typed = ⟨#[]⟩) (hs : d.stage = 0 ∨ d.stage = 1) (hf : fine s) :
    (typeL login pw (s.data.toList ++ [13]) d).1 = (line login pw { d with typed := s }).1 := by
  rw [typed_run login pw [13] s.data.toList d hs hf.1 (by rw [ht, Array.length_toList]; have h1 : (⟨#[]⟩ : ByteArray).size = 0 := rfl; have h2 : s.data.size = s.size := rfl; have := hf.2; omega)]
  rw [ht]
  have e : (⟨#[]⟩ : ByteArray) ++ ⟨s.data.toList.toArray⟩ = s := by apply ByteArray.ext; simp only [ByteArray.data_append]; apply Array.toList_inj.1; simp
  rw [e, type_line (d := { d with typed := s }) hs (Or.inl rfl), type_nil]
theorem keep_in {login pw s was : ByteArray} {d : D} {i : Nat} (h : KInv d was i) (hf : fine s) (h2 : (typeL login pw (s.data.toList ++ [13]) d).1.stage = 2) : d.stage = 1 ∧ was = login ∧ s = pw ∧ 0 < i := by
  rcases h.stage with h0 | h1 | h3
  · rw [lined_eq login pw s d h.typed (Or.inl h0) hf] at h2
    unfold line at h2
    rw [if_neg (by show ¬ d.stage = 1; omega)] at h2
    split at h2
    · have h2 : d.stage = 2 := h2
      omega
    · simp at h2
  · have hn := h.name h1
    rw [lined_eq login pw s d h.typed (Or.inr h1) hf] at h2
    unfold line at h2
    rw [if_pos (show ({ d with typed := s } : D).stage = 1 from h1)] at h2
    split at h2
    · rename_i hh
      have hh1 : d.name = login := hh.1
      have hh2 : s = pw := hh.2
      exact ⟨h1, hn.1.symm.trans hh1, hh2, hn.2⟩
    · split at h2 <;> simp at h2
  · cases hl : s.data.toList ++ [13] with
    | nil => simp at hl
    | cons a b =>
      rw [hl, type_shut (by omega) (by omega)] at h2
      have h2 : d.stage = 2 := h2
      omega
theorem keep_on {login pw s was : ByteArray} {d : D} {i : Nat} (h : KInv d was i) (hf : fine s) (h2 : ¬ (typeL login pw (s.data.toList ++ [13]) d).1.stage = 2) : KInv (typeL login pw (s.data.toList ++ [13]) d).1 s (i + 1) ∧ (d.stage = 1 → was = login → ¬ s = pw) := by
  have hg := good_type login pw (s.data.toList ++ [13]) d h.good
  rcases h.stage with h0 | h1 | h3
  · refine ⟨?_, fun e => by omega⟩
    rw [lined_eq login pw s d h.typed (Or.inl h0) hf] at hg ⊢
    unfold line at hg ⊢
    rw [if_neg (by show ¬ d.stage = 1; omega)] at hg ⊢
    by_cases hs : s = ⟨#[]⟩
    · rw [if_pos hs] at hg ⊢
      exact ⟨hg, rfl, Or.inl h0, fun e => by have e : d.stage = 1 := e; omega⟩
    · rw [if_neg hs] at hg ⊢
      exact ⟨hg, rfl, Or.inr (Or.inl rfl), fun _ => ⟨rfl, by omega⟩⟩
  · have hn := h.name h1
    rw [lined_eq login pw s d h.typed (Or.inr h1) hf] at hg h2 ⊢
    unfold line at hg h2 ⊢
    rw [if_pos (show ({ d with typed := s } : D).stage = 1 from h1)] at hg h2 ⊢
    by_cases hh : d.name = login ∧ s = pw
    · rw [if_pos hh] at h2; exact absurd rfl h2
    · rw [if_neg hh] at hg h2 ⊢
      refine ⟨?_, fun _ e1 e2 => hh ⟨hn.1.trans e1, e2⟩⟩
      by_cases hw : 2 < d.wrong + 1
      · rw [if_pos hw] at hg ⊢
        exact ⟨hg, rfl, Or.inr (Or.inr rfl), fun e => by simp at e⟩
      · rw [if_neg hw] at hg ⊢
        exact ⟨hg, rfl, Or.inl rfl, fun e => by simp at e⟩
  · refine ⟨?_, fun e => by omega⟩
    cases hl : s.data.toList ++ [13] with
    | nil => simp at hl
    | cons a b =>
      rw [type_shut (by omega) (by omega)]
      exact ⟨h.good, h.typed, Or.inr (Or.inr h3), fun e => by have e : d.stage = 1 := e; omega⟩
end Gr

/-! rows of texts -/
def txtE : Rg.El ByteArray := { enc := fun s => [.string s], m := 1, hm := fun _ => rfl, pos := by decide, one := fun x u hu => by simp at hu; subst hu; rfl, ty := 9 }
theorem infoTxt : (Try.prog.info? 9).map (fun i => (i.zero, i.size, i.bytes)) = some (some (.string ⟨#[]⟩), 1, 16) := by kernel_rfl
theorem txt_flat (l : List ByteArray) : txtE.flat l = l.map Value.string := by
  unfold Rg.El.flat
  induction l with
  | nil => rfl
  | cons x r ih => rw [List.flatMap_cons, ih]; rfl
theorem grow_row {W : World} {a : Option Addr} {l : List ByteArray} (h : GRow W a l) (h0 : 0 < l.length) : txtE.Row W a l := by
  rcases h with rfl | ⟨b, o, e, hlt, hc⟩
  · simp at h0
  · refine .inr ⟨b, o, e, hlt, ?_⟩
    intro t u ht
    rw [txt_flat, List.getElem?_map] at ht
    by_cases hl : t < l.length
    · rw [List.getElem?_eq_getElem hl] at ht
      simp at ht
      subst ht
      exact hc t hl
    · rw [List.getElem?_eq_none (by omega)] at ht; simp at ht
theorem row_grow {W : World} {g : Nat} {base cap : Nat} {l : List ByteArray} {rest : List Value} (h : txtE.Own base W g cap l rest) : GRow W (some ⟨g, 0, none⟩) l := by
  refine .inr ⟨g, 0, rfl, h.lt, fun i hi => ?_⟩
  have hb := h.blk
  rw [Lib.cell_of_heap hb, txt_flat]
  simp [List.getElem?_append, hi]
theorem app_nil {P : Program} {t e ty : TypeId} {i : TypeInfo} (ht : P.underlying t = some (.slice e)) (hi : P.info? e = some i) (g n cap : Nat) (hle : n ≤ cap) (a : Option Addr) (c : Nat) (W : World) :
    (Builtin.append_ #[t, t] ty #[.slice (some ⟨g, 0, none⟩) n cap, .slice a 0 c]).run P W = .ok (.slice (some ⟨g, 0, none⟩) n cap) W := by
  cases a <;> simp [Builtin.append_, run_underlying ht, sizeOf, typeInfo, hi, Builtin.lenOf, Builtin.firstCells, storeCells, loadCells, loadCellsFrom, hle]
theorem own_nil (W : World) : txtE.Own W.heap.size (W.alloc (.cells #[] 9)) W.heap.size 0 [] [] := ⟨(MapKept.heap_alloc W _).1, Nat.le_refl _, Nat.le_refl _, Nat.zero_le _, by simp⟩
/-- append([]string{}, l...) and append(.., x, y) -/
theorem two_appends (a : Option Addr) (cap : Nat) (l : List ByteArray) (N : Nat) (hN : N = l.length) (x y : ByteArray) (W : World) (hr : GRow W a l) (hn : N ≤ 40) :
    ∃ g1 c1 W2 g2 c2 W4, (Builtin.append_ #[22, 22] 22 #[.slice (some ⟨W.heap.size, 0, none⟩) 0 0, .slice a N cap]).run Try.prog (W.alloc (.cells #[] 9)) = .ok (.slice (some ⟨g1, 0, none⟩) N c1) W2 ∧
      (Builtin.append_ #[22, 22] 22 #[.slice (some ⟨g1, 0, none⟩) N c1, .slice (some ⟨W2.heap.size, 0, none⟩) 2 2]).run Try.prog (W2.alloc (.cells #[.string x, .string y] 9)) = .ok (.slice (some ⟨g2, 0, none⟩) (N + 2) c2) W4 ∧
      GRow W4 (some ⟨g2, 0, none⟩) (l ++ [x, y]) ∧ Below W.heap.size W W4 := by
  subst hN
  obtain ⟨i0, hi, hz0, hz1, hz2⟩ := info_parts infoTxt
  have b0 : Below W.heap.size W (W.alloc (.cells #[] 9)) := Rg.al1 _ _
  obtain ⟨g1, c1, W2, rest1, h1, o1, b1⟩ : ∃ g1 c1 W2 rest1, (Builtin.append_ #[22, 22] 22 #[.slice (some ⟨W.heap.size, 0, none⟩) 0 0, .slice a l.length cap]).run Try.prog (W.alloc (.cells #[] 9)) = .ok (.slice (some ⟨g1, 0, none⟩) l.length c1) W2 ∧ txtE.Own W.heap.size W2 g1 c1 l rest1 ∧ Below W.heap.size W W2 := by
    by_cases h0 : 0 < l.length
    · obtain ⟨g', cap', rest', W', h1, h2, h3, _, _⟩ := (own_nil W).appendRow (P := Try.prog) l 22 22 i0 _ 16 Try.underlying22 hi hz0 hz1 hz2 rfl a cap (grow_row (hr.below b0) h0) b0.size (by simp; omega) (by unfold maxLen; simp; omega)
      refine ⟨g', cap', W', rest', ?_, ?_, b0.trans h3⟩
      · simpa using h1
      · simpa using h2
    · obtain rfl : l = [] := List.eq_nil_of_length_eq_zero (by omega)
      exact ⟨_, 0, _, [], app_nil Try.underlying22 hi _ 0 0 (Nat.le_refl _) a cap _, own_nil W, b0⟩
  have b2 : Below W.heap.size W (W2.alloc (.cells #[.string x, .string y] 9)) := b1.alloc b1.size _
  have o2 : txtE.Own W.heap.size (W2.alloc (.cells #[.string x, .string y] 9)) g1 c1 l rest1 := ⟨(Below.heap_alloc W2 _ g1 o1.lt).trans o1.blk, o1.new, o1.le, o1.max, o1.fit⟩
  have hrow2 : txtE.Row (W2.alloc (.cells #[.string x, .string y] 9)) (some ⟨W2.heap.size, 0, none⟩) [x, y] := by
    refine grow_row (.inr ⟨_, _, rfl, by simp, fun i hi => ?_⟩) (by simp)
    rw [Lib.cell_of_heap (MapKept.heap_alloc W2 _).1]
    match i, hi with
    | 0, _ => rfl
    | 1, _ => rfl
    | n + 2, h => exact absurd h (by show ¬ n + 2 < 2; omega)
  obtain ⟨g', cap', rest', W', h1', h2', h3', _, _⟩ := o2.appendRow (P := Try.prog) [x, y] 22 22 i0 _ 16 Try.underlying22 hi hz0 hz1 hz2 rfl (some ⟨W2.heap.size, 0, none⟩) 2 hrow2 b2.size (by simp; omega) (by unfold maxLen; simp; omega)
  exact ⟨g1, c1, W2, g', cap', W', h1, h1', row_grow h2', b2.trans h3'⟩
end Go.Proofs.Ytpndcbilnbihaab
