/-
  Layer 6: the document's disk: List.
-/
import Derived.Test.YtempiajepomajaaRf9
namespace Go.Proofs.Ytempiajepomajaa
open Go.RowKit

/-- none, or names in a row of one's own -/
def SO (base : Nat) (W : World) (A : Option Addr) (cap : Nat) (S : List ByteArray) : Prop := (A = none ∧ S = [] ∧ cap = 0) ∨ ∃ g rest, A = some ⟨g, 0, none⟩ ∧ strE.Own base W g cap S rest
theorem SO.below {base : Nat} {W W' : World} {A : Option Addr} {cap : Nat} {S : List ByteArray} (h : SO base W A cap S) (hb : Below W.heap.size W W') : SO base W' A cap S := by
  rcases h with h | ⟨g, rest, h1, h2⟩
  · exact .inl h
  · exact .inr ⟨g, rest, h1, h2.below hb⟩
theorem SO.append {base : Nat} {W : World} {A : Option Addr} {cap : Nat} {S : List ByteArray} (h : SO base W A cap S) (x : ByteArray) (ad : Nat) (hx : Rg.At W ad 0 (strE.enc x)) (hB : base ≤ W.heap.size) (hS : S.length ≤ 1000000000) :
    ∃ g' cap' W', (Builtin.append_ #[37, 37] 37 #[.slice A S.length cap, .slice (some ⟨ad, 0, none⟩) 1 1]).run Try.prog W = .ok (.slice (some ⟨g', 0, none⟩) (S.length + 1) cap') W' ∧ SO base W' (some ⟨g', 0, none⟩) cap' (S ++ [x]) ∧ Below base W W' := by
  obtain ⟨i0, hi, hz0, hz1, hz2⟩ := infoStr'
  rcases h with ⟨rfl, rfl, rfl⟩ | ⟨g, rest, rfl, h⟩
  · obtain ⟨g', cap', rest', W', h1, h2, h3, h4⟩ := strE.append0 (P := Try.prog) W base x 37 37 i0 _ 16 Try.underlying37 hi hz0 hz1 hz2 rfl ⟨ad, 0, none⟩ 1 hx.add hB (by omega)
    exact ⟨g', cap', W', h1, .inr ⟨g', rest', rfl, h2⟩, h3.mono hB⟩
  · obtain ⟨g', cap', rest', W', h1, h2, _, h4, _, _⟩ := h.append (P := Try.prog) x 37 37 i0 _ 16 Try.underlying37 hi hz0 hz1 hz2 rfl ⟨ad, 0, none⟩ 1 hx.add hB (by omega) (by unfold maxLen; omega)
    exact ⟨g', cap', W', h1, .inr ⟨g', rest', rfl, h2⟩, h4⟩

set_option maxHeartbeats 2000000 in
set_option maxRecDepth 100000 in
theorem rlist_any (v : Value) (d : Dsk.Dk) (w : World) (hd : Dsk.Ok d) (h : DAt w v d) :
    Calls Try.prog 13 #[v] w fun e w' => ListPost w ((Dsk.files d).map (·.n)) e w' := by
  have HF : Hid (∀ W, Below w.heap.size w W → Calls Try.prog 20 #[v] W fun e w' => ∃ a c, e = .returned (.slice a (Dsk.files d).length c) ∧ fileE.Row w' a (Dsk.files d) ∧ Below w.heap.size w w') := fun W hW => (rfiles_any v d W hd (h.below hW)).mono fun e w' ⟨a, c, h1, h2, _, h3⟩ => ⟨a, c, h1, h2, hW.trans (h3.mono hW.size)⟩
  have hul := hd.files
  have hll := Dsk.len_used (Dsk.files d)
  obtain ⟨sa, sc, oa, oc, rfl, hS, hO, hsc, hoc⟩ := h
  generalize Dsk.files d = l at *
  obtain ⟨safe, ops, cap, fuse, down⟩ := d
  unfold dval at *
  dsimp only at *
  generalize safe.length = SN at *
  generalize ops.length = ON at *
  clear hS hO hd
  obtain ⟨N, hN⟩ : ∃ N, N = l.length := ⟨_, rfl⟩
  rw [← hN] at HF hll
  have hNb : N ≤ 1000000000 := by omega
  replace hN := Rg.hid hN
  clear hul hll
  go_enter Try.func13, Try.ntmps13
  go_wp2_with (go_at_call 20; refine (HF.out _ (Rg.al1 _ _)).mono ?_)
  rintro e w2 ⟨a, c, rfl, hr, hb⟩
  replace hr := Rg.hid hr
  clear HF
  go_wp2
  go_loopw [3, 9] (fun vo vi wr => ∃ (i : Nat) (A : Option Addr) (co : Nat), i ≤ N ∧ vi = .int .i64 i ∧ vo = .slice A i co ∧ Hid (SO w2.heap.size wr A co ((l.take i).map (·.n))) ∧ Below w2.heap.size w2 wr) (fun _ vi _ => N - (intOf vi).toNat)
  case atStart => exact ⟨0, none, 0, Nat.zero_le _, rfl, rfl, .inl ⟨rfl, rfl, rfl⟩, Below.refl _ _⟩
  case round =>
    obtain ⟨i, A, co, hin, rfl, rfl, hso, hbw⟩ := hrel
    by_cases hlt : i < N
    · have hil : i < l.length := by rw [← hN.out]; exact hlt
      obtain ⟨p, o, rfl, hp, hpat⟩ : ∃ p o, a = some ⟨p, o, none⟩ ∧ p < w2.heap.size ∧ Rg.At w2 p o (fileE.flat l) := by
        rcases hr.out with ⟨_, h⟩ | h
        · rw [h] at hil; simp at hil
        · exact h
      have at1 : Rg.At wr p (o + i * 2) (fileE.enc l[i]) := (hpat.elem hil).below hbw hp
      have hnx : Hid ((l.take (i + 1)).map (·.n) = (l.take i).map (·.n) ++ [l[i].n]) := by show _ = _; rw [List.take_succ_eq_append_getElem hil, List.map_append]; rfl
      have hml : ((l.take i).map (·.n)).length = i := by rw [List.length_map, List.length_take]; omega
      generalize l[i] = xe at *
      obtain ⟨xn, xd⟩ := xe
      obtain ⟨c0, c1⟩ := file_at at1
      dsimp only at hnx
      have hz0 : (0 : Int) ≤ (i : Int) := by omega
      have hz1 : (i : Int) < (N : Int) := by omega
      have hb3 := Rg.chain hbw (Rg.al2 wr (.cells #[.string xn, .string xd] 53) (.cells #[.string xn] 9))
      obtain ⟨g', cap', w5, hap, hso5, hb5⟩ := (hso.out.below (Rg.al2 wr (.cells #[.string xn, .string xd] 53) (.cells #[.string xn] 9))).append xn (wr.heap.size + 1) (fun t u ht => by rw [Nat.zero_add, (Rg.Bk.new (b := wr.heap.size + 1) (W := wr.alloc (.cells #[.string xn, .string xd] 53)) (C := [.string xn]) (ty := 9) (by simp)).cell t]; exact ht) hb3.size (by rw [hml]; omega)
      rw [hml] at hap
      rw [← hnx.out] at hso5
      have hb6 := hb3.trans hb5
      replace hap := Rg.hid hap
      replace hso5 := Rg.hid hso5
      clear at1 hpat hil hr hso hnx hml hb3 hb5
      go_wp2_with (at_builtin; refine Rg.wpList_append_run rfl (.tmp 13) (.tmp 16) 37 rfl _ _ rfl rfl _ _ hap.out ?_)
      go_roundw
      case rel => exact ⟨i + 1, some ⟨g', 0, none⟩, cap', by omega, by go_num, rfl, hso5, hb6⟩
      case measure => simp [intOf]; omega
    · obtain rfl : i = N := by omega
      have hpost : Hid (ListPost w (l.map (·.n)) (.returned (.slice A i co)) wr) := by
        have h1 := hso.out
        rw [List.take_of_length_le (by rw [← hN.out]; exact Nat.le_refl _)] at h1
        have hl : (l.map (·.n)).length = i := by rw [List.length_map, hN.out]
        rcases h1 with ⟨e1, e2, e3⟩ | ⟨g, rest, e1, e2⟩
        · refine ⟨A, co, by rw [hl], .inl ⟨e1, e2⟩, ?_, Rg.chain hb hbw⟩
          rw [e2]; exact Nat.zero_le _
        · exact ⟨A, co, by rw [hl], by rw [e1]; exact e2.toRow, e2.le, Rg.chain hb hbw⟩
      clear hso
      go_wp2
      go_ret
      exact hpost.out
end Go.Proofs.Ytempiajepomajaa
