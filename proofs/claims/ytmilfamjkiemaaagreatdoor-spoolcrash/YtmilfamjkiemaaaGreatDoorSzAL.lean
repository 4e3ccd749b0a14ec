/-
  Layer 6: rows of files that are copied, cut and grown. Layer 6: a file comes to its place (come, put).
-/
import Derived.Test.YtmilfamjkiemaaaGreatDoorSzAK
import Derived.Lib.SliceRun
import Derived.Laws.AppendOwn
import Derived.Deep.RegionHeld3
namespace Go.Proofs.YtmilfamjkiemaaaGreatDoor
open Go.RowKit

theorem infoFile : (Tryz.prog.info? 84).map (fun i => (i.zero, i.size, i.bytes)) = some (some (.agg #[.string ByteArray.empty, .string ByteArray.empty]), 2, 32) := by kernel_rfl
theorem infoFile' : ∃ i0, Tryz.prog.info? 84 = some i0 ∧ i0.zero = some (.agg #[.string ByteArray.empty, .string ByteArray.empty]) ∧ i0.size = 2 ∧ i0.bytes = 32 := by
  have := infoFile
  cases h : Tryz.prog.info? 84 with
  | none => rw [h] at this; cases this
  | some i => rw [h] at this; simp only [Option.map_some, Option.some.injEq, Prod.mk.injEq] at this; exact ⟨i, rfl, this.1, this.2.1, this.2.2⟩
theorem sizeFile : (Tryz.prog.info? 84).map (·.size) = some 2 := by kernel_rfl

/-- files of one's own -/
def FOwn (base : Nat) (W : World) (v : Value) (l : List Dsk.Fl) : Prop := (v = .slice none 0 0 ∧ l = []) ∨ ∃ g cap rest, v = .slice (some ⟨g, 0, none⟩) l.length cap ∧ fileE.Own base W g cap l rest
theorem FOwn.below {base : Nat} {W W' : World} {v : Value} {l : List Dsk.Fl} (h : FOwn base W v l) (hb : Below W.heap.size W W') : FOwn base W' v l := by
  rcases h with h | ⟨g, cap, rest, h1, h2⟩
  · exact .inl h
  · exact .inr ⟨g, cap, rest, h1, h2.below hb⟩
theorem FOwn.mono {base base' : Nat} {W : World} {v : Value} {l : List Dsk.Fl} (h : FOwn base W v l) (hb : base' ≤ base) : FOwn base' W v l := by
  rcases h with h | ⟨g, cap, rest, h1, h2⟩
  · exact .inl h
  · exact .inr ⟨g, cap, rest, h1, ⟨h2.blk, Nat.le_trans hb h2.new, h2.le, h2.max, h2.fit⟩⟩
/-- behind Clone -/
def ClonePost (w : World) (l : List Dsk.Fl) (e : Ending) (w' : World) : Prop := ∃ v, e = .returned v ∧ FOwn w.heap.size w' v l ∧ Below w.heap.size w w'

set_option maxHeartbeats 2000000 in
set_option maxRecDepth 100000 in
theorem clone_any (a : Option Addr) (c : Nat) (l : List Dsk.Fl) (w : World) (hn : l.length ≤ 1000000000) (hrow : fileE.Row w a l) :
    Calls Tryz.prog 117 #[.slice a l.length c] w fun e w' => ClonePost w l e w' := by
  have q22 : ∀ (w : World) (a : Option Addr) (n c n' c' : Nat), (binOp .eql 25 (.slice a n c) (.slice none n' c')).run Tryz.prog w = .ok (.bool a.isNone) w := fun w a n c n' c' => Lib.run_eql_slice_nil w _ _ a n c n' c' Tryz.underlying25
  rcases hrow with ⟨rfl, rfl⟩ | ⟨b, o, rfl, hb, hc⟩
  · go_enter Tryz.func117, Tryz.ntmps117
    go_wp2
    go_ret
    exact ⟨_, rfl, .inl ⟨rfl, rfl⟩, Below.refl _ _⟩
  · obtain ⟨i0, hi, hz0, hz1, hz2⟩ := infoFile'
    have hb0 := Rg.al1 w (.cells #[] 84)
    have hcells := Rg.hid (hc.below hb0 hb).add
    have hlen : (fileE.flat l).length = l.length * 2 := fileE.flat_length l
    have h1 := Rg.hid (fileE.flat_cells l)
    obtain ⟨news, hnews⟩ : ∃ x, x = fileE.flat l := ⟨_, rfl⟩
    rw [← hnews] at hcells hlen h1
    obtain ⟨N, hN⟩ : ∃ N, N = l.length := ⟨_, rfl⟩
    rw [← hN] at hlen hn
    have hpost : Hid (∀ v' w', w'.ownsRow w.heap.size 84 2 v' N news → ¬ v' = .slice none 0 0 → Below w.heap.size w w' → ClonePost w l (.returned v') w') := fun v' w' h1 h2 h3 => by
      rw [hnews] at h1
      obtain ⟨g, cap, rest, h4, h5⟩ := Rg.El.Own.of (E := fileE) h1 h2 hN
      exact ⟨v', rfl, .inr ⟨g, cap, rest, h4, h5⟩, h3⟩
    rw [← hN]
    replace hnews := Rg.hid hnews
    replace hN := Rg.hid hN
    clear hc
    go_enter Tryz.func117, Tryz.ntmps117
    go_wp2_with (at_builtin; refine wpList_append_own _ rfl _ _ 25 rfl w.heap.size 84 i0 (.agg #[.string ByteArray.empty, .string ByteArray.empty]) 2 32 Tryz.underlying25 hi hz0 hz1 hz2 rfl (by decide) _ _ _ rfl (World.ownsRow_made w #[] 0 (Nat.le_refl _) (Nat.zero_le _) (by simp)) ⟨b, o, none⟩ N c news rfl ?c0 ?c1 ?c2 ?c3 ?c4 ?c5 ?_)
    case c0 => exact hlen
    case c1 => exact hcells.out
    case c2 => exact h1.out
    case c3 => unfold maxLen; omega
    case c4 => omega
    case c5 => simp
    intro v' w' hown hgrow hne
    have hne' := Rg.hid hne
    clear hne
    go_wp2
    go_ret
    refine hpost.out v' w' (by simpa using hown) hne'.out (hb0.grown hgrow (by simp) (fun k hk => by simp [Value.ownBlock] at hk; omega))

/-- behind leave: the row without one -/
def LeavePost (base g : Nat) (w : World) (l : List Dsk.Fl) (k : Nat) (e : Ending) (w' : World) : Prop := ∃ rest, e = .returned (.slice (some ⟨g, 0, none⟩) (l.length - 1) (l.length - 1)) ∧ fileE.Own base w' g (l.length - 1) (l.take k ++ l.drop (k + 1)) rest ∧ Rg.Only g w w'

set_option maxRecDepth 100000 in
theorem leave_copy {base g cap : Nat} {W : World} {l : List Dsk.Fl} {rest : List Value} (h : fileE.Own base W g cap l rest) (k : Nat) (hk : k < l.length) (ty : TypeId) (dc sc : Nat) (sa : Addr) (hsa : sa = ⟨g, (k + 1) * 2, none⟩ ∨ l.length = k + 1) :
    ∃ W' rest', (Builtin.copy_ #[25, 25] ty #[.slice (some ⟨g, k * 2, none⟩) (l.length - k) dc, .slice (some sa) (l.length - (k + 1)) sc]).run Tryz.prog W = .ok (.int .i64 ((l.length - (k + 1) : Nat) : Int)) W' ∧
      fileE.Own base W' g (l.length - 1) (l.take k ++ l.drop (k + 1)) rest' ∧ Rg.Only g W W' := by
  have hmin : Nat.min (l.length - (k + 1)) (l.length - k) = l.length - (k + 1) := Nat.min_eq_left (by omega)
  have hfl : (fileE.flat (l.drop (k + 1))).length = (l.length - (k + 1)) * 2 := by rw [fileE.flat_length, List.length_drop]; rfl
  have htot : (fileE.flat l ++ rest).length = l.length * 2 + rest.length := by rw [List.length_append, fileE.flat_length]; rfl
  have hsp : fileE.flat l ++ rest = (fileE.flat (l.take (k + 1))) ++ (fileE.flat (l.drop (k + 1)) ++ rest) := by rw [← List.append_assoc, ← fileE.flat_append, List.take_append_drop]
  have htk : (fileE.flat (l.take (k + 1))).length = (k + 1) * 2 := fileE.flat_take l (k + 1) (by omega)
  have hsrc : Rg.At W g ((k + 1) * 2) (fileE.flat (l.drop (k + 1))) := by
    have := h.row
    rw [← List.take_append_drop (k + 1) l, fileE.flat_append] at this
    have := this.right htk
    rw [Nat.zero_add] at this; exact this
  have hsrc' : ∀ j v, (fileE.flat (l.drop (k + 1)))[j]? = some v → W.cell? (sa.add j) = some v := by
    rcases hsa with rfl | e
    · exact hsrc.add
    · intro j v hj
      rw [List.drop_eq_nil_of_le (by omega)] at hj
      simp [Rg.El.flat] at hj
  have hr := Rg.run_copyG (P := Tryz.prog) W 25 25 ty 84 2 g (k * 2) (l.length - k) dc sa (l.length - (k + 1)) sc (fileE.flat l ++ rest).toArray 84 (fileE.flat (l.drop (k + 1))) Tryz.underlying25 sizeFile h.blk (by rw [hmin]; exact hfl) hsrc' (by rw [List.size_toArray, htot, hfl]; omega) (fileE.flat_cells _)
  rw [hmin] at hr
  have e1 : (fileE.flat l ++ rest).toArray.toList.take (k * 2) = fileE.flat (l.take k) := by
    have h2 : (fileE.flat (l.take k)).length = k * 2 := fileE.flat_take l k (by omega)
    show (fileE.flat l ++ rest).take (k * 2) = _
    rw [show fileE.flat l = fileE.flat (l.take k) ++ fileE.flat (l.drop k) by rw [← fileE.flat_append, List.take_append_drop], List.append_assoc, ← h2, List.take_left]
  refine ⟨_, (fileE.flat l ++ rest).drop (k * 2 + (fileE.flat (l.drop (k + 1))).length), hr, ⟨?_, h.new, ?_, Nat.le_trans (by have := h.le; omega) h.max, ?_⟩, Rg.Only.setRow W g _⟩
  · rw [setRow_heap W g _ _ _ _ h.blk, e1, fileE.flat_append]
  · simp; omega
  · rw [List.length_append, fileE.flat_length, List.length_drop, htot, hfl, List.length_append, List.length_take, List.length_drop]
    show (l.length - 1) * 2 ≤ _ * 2 + _
    omega

set_option maxHeartbeats 2000000 in
set_option maxRecDepth 100000 in
theorem leave_any (base g cap : Nat) (l : List Dsk.Fl) (rest : List Value) (k : Nat) (w : World) (hn : l.length ≤ 1000000000) (hk : k < l.length) (h : fileE.Own base w g cap l rest) :
    Calls Tryz.prog 144 #[.slice (some ⟨g, 0, none⟩) l.length cap, .int .i64 k] w fun e w' => LeavePost base g w l k e w' := by
  have hcap := h.le
  obtain ⟨N, hN⟩ : ∃ N, N = l.length := ⟨_, rfl⟩
  obtain ⟨k1, hk1⟩ : ∃ k1, k1 = k + 1 := ⟨_, rfl⟩
  obtain ⟨M, hM⟩ : ∃ M, M = N - k1 := ⟨_, rfl⟩
  obtain ⟨N1, hN1⟩ : ∃ N1, N1 = N - 1 := ⟨_, rfl⟩
  have e0 : (0 : Int) ≤ (k : Int) := by omega
  have e1 : (k : Int) ≤ (N : Int) := by omega
  have e2 : (0 : Int) ≤ (k1 : Int) := by omega
  have e3 : (k1 : Int) ≤ (N : Int) := by omega
  have e5 : (N : Int) ≤ (cap : Int) := by omega
  have e7 : IntKind.i64.wrap ((k : Int) + 1) = (k1 : Int) := by rw [IntKind.wrap_i64]; omega
  have e8 : IntKind.i64.wrap ((k : Int) + (M : Int)) = (N1 : Int) := by rw [IntKind.wrap_i64]; omega
  have e9 : (0 : Int) ≤ (N1 : Int) := by omega
  have e10 : (N1 : Int) ≤ (cap : Int) := by omega
  have e11 : ¬ cap = k := by omega
  obtain ⟨sa, hsa, hsae⟩ : ∃ sa : Addr, (sa = ⟨g, (k + 1) * 2, none⟩ ∨ l.length = k + 1) ∧ sa = if cap = k1 then ⟨g, 0, none⟩ else ⟨g, k1 * 2, none⟩ := by
    by_cases hc : cap = k1
    · exact ⟨_, .inr (by omega), rfl⟩
    · exact ⟨_, .inl (by rw [if_neg hc, hk1]), rfl⟩
  obtain ⟨W', rest', hcp, hown, honly⟩ := leave_copy h.drew k hk 3 (cap - k) (cap - (k + 1)) sa hsa
  have hpost : Hid (LeavePost base g w l k (.returned (.slice (some ⟨g, 0, none⟩) (l.length - 1) (l.length - 1))) W') := ⟨rest', rfl, hown, (Rg.Only.drew w g).trans honly⟩
  rw [← hk1, ← hN] at hcp
  rw [show (.int .i64 ((N - k1 : Nat) : Int) : Value) = .int .i64 (M : Int) by rw [hM]] at hcp
  rw [← hN] at hpost hcap hk hn ⊢
  rw [← hN1] at hpost
  replace hN := Rg.hid hN
  replace hk1 := Rg.hid hk1
  replace hM := Rg.hid hM
  replace hN1 := Rg.hid hN1
  clear h hown honly hsa
  by_cases hc : cap = k1
  · rw [if_pos hc] at hsae
    subst hsae
    subst hc
    rw [show N - cap = 0 by omega, Nat.sub_self] at hcp
    replace hcp := Rg.hid hcp
    go_enter Tryz.func144, Tryz.ntmps144
    go_wp2
    go_region_held3 (fun w' => Rg.Free w') (exact Rg.free _) ((refine Rg.step_copy_run (by rfl) (.tmp 9) (.tmp 13) 25 25 (by rfl) _ _ (by rfl) (by rfl) hcp.out ?_))
    go_wp2
    go_ret
    exact hpost.out
  · rw [if_neg hc] at hsae
    subst hsae
    replace hcp := Rg.hid hcp
    go_enter Tryz.func144, Tryz.ntmps144
    go_wp2
    go_region_held3 (fun w' => Rg.Free w') (exact Rg.free _) ((refine Rg.step_copy_run (by rfl) (.tmp 9) (.tmp 13) 25 25 (by rfl) _ _ (by rfl) (by rfl) hcp.out ?_))
    go_wp2
    go_ret
    exact hpost.out
end Go.Proofs.YtmilfamjkiemaaaGreatDoor

namespace Go.Proofs.YtmilfamjkiemaaaGreatDoor
open Go.RowKit

theorem file_put {base g cap : Nat} {W : World} {l : List Dsk.Fl} {rest : List Value} (h : fileE.Own base W g cap l rest) {i : Nat} (hi : i < l.length) (n d : ByteArray) :
    fileE.Own base ((W.setCell ⟨g, i * 2, none⟩ (.string n)).setCell ⟨g, i * 2 + 1, none⟩ (.string d)) g cap (l.set i ⟨n, d⟩) rest := by
  have s0 := h.set1 (i * 2) (.string n)
  have s1 := Go.heap_setCell_same _ g (i * 2 + 1) _ _ (.string d) s0
  refine h.re (cs := ((fileE.flat l ++ rest).set (i * 2) (.string n)).set (i * 2 + 1) (.string d)) ?_ ?_ (by simpa using h.le) (by simp)
  · rw [s1]; simp
  · rw [fileE.flat_put hi]
    have e0 := fileE.flat_set hi (t := 0) (by decide) rest (.string n)
    rw [show i * 2 = i * fileE.m + 0 from rfl, e0]
    have hl : (fileE.flat (l.take i)).length = i * 2 := fileE.flat_take l i (by omega)
    rw [List.set_append_right _ _ (by rw [hl]; show i * 2 ≤ i * 2 + 0 + 1; omega), hl, show i * fileE.m + 0 + 1 - i * 2 = 1 by show i * 2 + 0 + 1 - i * 2 = 1; omega]
    rfl
theorem file_put1 {base g cap : Nat} {W : World} {l : List Dsk.Fl} {rest : List Value} (h : fileE.Own base W g cap l rest) {i : Nat} (hi : i < l.length) (d : ByteArray) :
    fileE.Own base (W.setCell ⟨g, i * 2 + 1, none⟩ (.string d)) g cap (l.set i ⟨l[i].n, d⟩) rest := by
  have s0 := h.set1 (i * 2 + 1) (.string d)
  refine h.re (cs := (fileE.flat l ++ rest).set (i * 2 + 1) (.string d)) s0 ?_ (by simpa using h.le) (by simp)
  rw [fileE.flat_put hi, show i * 2 + 1 = i * fileE.m + 1 from rfl, fileE.flat_set hi (t := 1) (by decide) rest (.string d)]
  rfl

set_option maxRecDepth 100000 in
theorem come_copy {base g cap : Nat} {W : World} {l : List Dsk.Fl} {x : Dsk.Fl} {rest : List Value} (h : fileE.Own base W g cap (l ++ [x]) rest) (k : Nat) (hk : k ≤ l.length) (ty : TypeId) (dc sc : Nat) (sa : Addr) (hsa : ∀ j v, (fileE.flat (l.drop k))[j]? = some v → W.cell? (sa.add j) = some v)
    (o : Nat) (ho : o = (k + 1) * 2 ∨ (l.length = k ∧ o = 0)) :
    ∃ W', (Builtin.copy_ #[25, 25] ty #[.slice (some ⟨g, o, none⟩) (l.length + 1 - (k + 1)) dc, .slice (some sa) (l.length - k) sc]).run Tryz.prog W = .ok (.int .i64 ((l.length - k : Nat) : Int)) W' ∧
      fileE.Own base W' g cap ((l ++ [x]).take (k + 1) ++ l.drop k) rest ∧ Rg.Only g W W' := by
  have hmin : Nat.min (l.length - k) (l.length + 1 - (k + 1)) = l.length - k := Nat.min_eq_left (by omega)
  have hfl : (fileE.flat (l.drop k)).length = (l.length - k) * 2 := by rw [fileE.flat_length, List.length_drop]; rfl
  have hlx : (l ++ [x]).length = l.length + 1 := by simp
  have htot : (fileE.flat (l ++ [x]) ++ rest).length = (l.length + 1) * 2 + rest.length := by rw [List.length_append, fileE.flat_length, hlx]; rfl
  have hr := Rg.run_copyG (P := Tryz.prog) W 25 25 ty 84 2 g o (l.length + 1 - (k + 1)) dc sa (l.length - k) sc (fileE.flat (l ++ [x]) ++ rest).toArray 84 (fileE.flat (l.drop k)) Tryz.underlying25 sizeFile h.blk (by rw [hmin]; exact hfl) hsa (by rw [List.size_toArray, htot, hfl]; rcases ho with rfl | ⟨h1, rfl⟩ <;> omega) (fileE.flat_cells _)
  rw [hmin] at hr
  have e1 : ((fileE.flat (l ++ [x]) ++ rest).toArray.toList.take o ++ fileE.flat (l.drop k) ++ (fileE.flat (l ++ [x]) ++ rest).toArray.toList.drop (o + (fileE.flat (l.drop k)).length)) = fileE.flat ((l ++ [x]).take (k + 1) ++ l.drop k) ++ rest := by
    show (fileE.flat (l ++ [x]) ++ rest).take o ++ fileE.flat (l.drop k) ++ (fileE.flat (l ++ [x]) ++ rest).drop (o + (fileE.flat (l.drop k)).length) = _
    rcases ho with rfl | ⟨h1, rfl⟩
    · have ht : (fileE.flat ((l ++ [x]).take (k + 1))).length = (k + 1) * 2 := fileE.flat_take (l ++ [x]) (k + 1) (by rw [hlx]; omega)
      have e2 : (fileE.flat (l ++ [x]) ++ rest).take ((k + 1) * 2) = fileE.flat ((l ++ [x]).take (k + 1)) := by
        rw [show fileE.flat (l ++ [x]) = fileE.flat ((l ++ [x]).take (k + 1)) ++ fileE.flat ((l ++ [x]).drop (k + 1)) by rw [← fileE.flat_append, List.take_append_drop], List.append_assoc, ← ht, List.take_left]
      have e3 : (fileE.flat (l ++ [x]) ++ rest).drop ((k + 1) * 2 + (fileE.flat (l.drop k)).length) = rest := by
        rw [hfl, show (k + 1) * 2 + (l.length - k) * 2 = (fileE.flat (l ++ [x])).length by rw [fileE.flat_length, hlx]; show _ = (l.length + 1) * 2; omega, List.drop_left]
      rw [e2, e3, fileE.flat_append]
    · have e4 : l.drop k = [] := List.drop_eq_nil_of_le (by omega)
      have e5 : (l ++ [x]).take (k + 1) = l ++ [x] := List.take_of_length_le (by rw [hlx]; omega)
      rw [e4, e5]
      simp [Rg.El.flat]
  rw [e1] at hr
  refine ⟨_, hr, ⟨setRow_heap W g _ _ _ _ h.blk, h.new, ?_, h.max, ?_⟩, Rg.Only.setRow W g _⟩
  · have := h.le
    rw [hlx] at this
    simp; omega
  · have := h.fit
    rw [htot] at this
    rw [List.length_append, fileE.flat_length]
    have e6 : ((l ++ [x]).take (k + 1) ++ l.drop k).length = l.length + 1 := by simp; omega
    rw [e6]
    exact this

/-- behind come, put, do: files of one's own -/
def PutPost (base : Nat) (w : World) (l : List Dsk.Fl) (e : Ending) (w' : World) : Prop := ∃ v, e = .returned v ∧ FOwn base w' v l ∧ Below base w w'

theorem ins_set (l : List Dsk.Fl) (x : Dsk.Fl) (k : Nat) (hk : k ≤ l.length) : ((l ++ [x]).take (k + 1) ++ l.drop k).set k x = l.take k ++ x :: l.drop k := by
  have e1 : (l ++ [x]).take (k + 1) = l.take k ++ [(l ++ [x])[k]'(by simp; omega)] := by
    rw [List.take_succ_eq_append_getElem (by simp; omega), List.take_append_of_le_length hk]
  have e2 : (l.take k).length = k := by rw [List.length_take]; omega
  rw [e1, List.append_assoc, List.set_append_right _ _ (by omega), e2, Nat.sub_self]
  rfl

set_option maxHeartbeats 4000000 in
set_option maxRecDepth 100000 in
theorem come_row (base g cap : Nat) (l : List Dsk.Fl) (rest : List Value) (k : Nat) (n d : ByteArray) (w : World) (hn : l.length ≤ 1000000000) (hk : k ≤ l.length) (hB : base ≤ w.heap.size) (h : fileE.Own base w g cap l rest) :
    Calls Tryz.prog 169 #[.slice (some ⟨g, 0, none⟩) l.length cap, .int .i64 k, .agg #[.string n, .string d]] w fun e w' => PutPost base w (l.take k ++ ⟨n, d⟩ :: l.drop k) e w' := by
  obtain ⟨i0, hi, hz0, hz1, hz2⟩ := infoFile'
  have hcap := h.le
  have hgw := h.lt
  obtain ⟨w1, hw1⟩ : ∃ w1, w1 = (w.alloc (.cells #[.string n, .string d] 84)).alloc (.cells #[.string n, .string d] 84) := ⟨_, rfl⟩
  have b1 : Below w.heap.size w w1 := by rw [hw1]; exact Rg.al2 _ _ _
  have z1 : w1.heap.size = w.heap.size + 2 := by rw [hw1]; simp
  have news : ∀ j u, (fileE.enc ⟨n, d⟩)[j]? = some u → w1.cell? ((⟨w.heap.size + 1, 0, none⟩ : Addr).add j) = some u := by
    intro j u hj
    match j, hj with
    | 0, hj => simp [fileE] at hj; subst hj; simp [Addr.add, hw1]
    | 1, hj => simp [fileE] at hj; subst hj; simp [Addr.add, hw1]
    | j + 2, hj => simp [fileE] at hj
  obtain ⟨g', cap', rest', w2, hap, hown, hat, hb2, hoth, hg'⟩ := (h.below b1).append ⟨n, d⟩ 25 25 i0 _ 32 Tryz.underlying25 hi hz0 hz1 hz2 rfl ⟨w.heap.size + 1, 0, none⟩ 1 news (by omega) (by omega) (by unfold maxLen; omega)
  have hb02 : Below base w w2 := (b1.mono hB).trans hb2
  have hg'0 : ¬ g' = w.heap.size := by omega
  have hbox : Hid (∀ w3, Rg.Only g' w2 w3 → w3.cell? ⟨w.heap.size, 0, none⟩ = some (.string n) ∧ w3.cell? ⟨w.heap.size, 1, none⟩ = some (.string d)) := fun w3 h3 => by
    rw [h3.cell (Ne.symm hg'0), h3.cell (Ne.symm hg'0), World.cell?_of_block (a := ⟨w.heap.size, 0, none⟩) (hoth w.heap.size (by omega) (by omega)), World.cell?_of_block (a := ⟨w.heap.size, 1, none⟩) (hoth w.heap.size (by omega) (by omega)), hw1]
    simp
  have hfin : Hid (∀ w3, fileE.Own base w3 g' cap' ((l ++ [(⟨n, d⟩ : Dsk.Fl)]).take (k + 1) ++ l.drop k) rest' → Rg.Only g' w2 w3 →
      PutPost base w (l.take k ++ ⟨n, d⟩ :: l.drop k) (.returned (.slice (some ⟨g', 0, none⟩) (l.length + 1) cap')) ((w3.setCell ⟨g', k * 2, none⟩ (.string n)).setCell ⟨g', k * 2 + 1, none⟩ (.string d))) := fun w3 h3 h4 => by
    have h5 := file_put h3 (i := k) (by simp; omega) n d
    rw [ins_set l ⟨n, d⟩ k hk] at h5
    refine ⟨_, rfl, .inr ⟨g', cap', rest', ?_, h5⟩, ((hb02.trans (h4.bel h3.new)).setCell h3.new _).setCell h3.new _⟩
    rw [show (l.take k ++ (⟨n, d⟩ : Dsk.Fl) :: l.drop k).length = l.length + 1 by simp; omega]
  have hsrc : Rg.At w2 g (k * 2) (fileE.flat (l.drop k)) := by
    rw [← List.take_append_drop k l, fileE.flat_append] at hat
    have := hat.right (fileE.flat_take l k hk)
    rw [Nat.zero_add] at this; exact this
  have hcapn := hown.le
  rw [show (l ++ [(⟨n, d⟩ : Dsk.Fl)]).length = l.length + 1 by simp] at hcapn
  obtain ⟨N, hN⟩ : ∃ N, N = l.length := ⟨_, rfl⟩
  obtain ⟨k1, hk1⟩ : ∃ k1, k1 = k + 1 := ⟨_, rfl⟩
  obtain ⟨N1, hN1⟩ : ∃ N1, N1 = N + 1 := ⟨_, rfl⟩
  obtain ⟨M, hM⟩ : ∃ M, M = N - k := ⟨_, rfl⟩
  have e0 : (0 : Int) ≤ (k : Int) := by omega
  have e1 : (k : Int) ≤ (N : Int) := by omega
  have e2 : (0 : Int) ≤ (k1 : Int) := by omega
  have e3 : (k1 : Int) ≤ (N1 : Int) := by omega
  have e4 : (N : Int) ≤ (cap : Int) := by omega
  have e5 : (N1 : Int) ≤ (cap' : Int) := by omega
  have e6 : (k : Int) < (N1 : Int) := by omega
  have e7 : IntKind.i64.wrap ((k : Int) + 1) = (k1 : Int) := by rw [IntKind.wrap_i64]; omega
  have e8 : k1 = 1 + k := by omega
  have e9 : Hid (∀ w3, fileE.Own base w3 g' cap' ((l ++ [(⟨n, d⟩ : Dsk.Fl)]).take (k + 1) ++ l.drop k) rest' → ∃ u, w3.cell? ⟨g', k * 2, none⟩ = some u ∧ ∃ u', w3.cell? ⟨g', k * 2 + 1, none⟩ = some u') := fun w3 h3 => by
    have hl : k < ((l ++ [(⟨n, d⟩ : Dsk.Fl)]).take (k + 1) ++ l.drop k).length := by simp; omega
    obtain ⟨q0, q1⟩ := file_at (show Rg.At w3 g' (0 + k * 2) (fileE.enc ⟨_, _⟩) from h3.row.elem hl)
    rw [Nat.zero_add] at q0 q1
    exact ⟨_, q0, _, q1⟩
  replace hk1 := Rg.hid hk1
  replace hN1 := Rg.hid hN1
  replace hM := Rg.hid hM
  replace e8 := Rg.hid e8
  rw [← hN] at hap hn hk hcap hcapn hfin ⊢
  rw [← hN1.out] at hap hcapn hfin
  replace hap := Rg.hid hap
  replace hsrc := Rg.hid hsrc
  replace hown := Rg.hid hown
  replace hoth := Rg.hid hoth
  clear h hat news hi hz0 hz1 hz2
  subst hw1
  by_cases hNk : N = k
  · have hnil : l.drop k = [] := List.drop_eq_nil_of_le (by omega)
    have hsa0 : ∀ j v, (fileE.flat (l.drop k))[j]? = some v → w2.cell? ((⟨g, 0, none⟩ : Addr).add j) = some v := fun j v hj => by rw [hnil] at hj; simp [Rg.El.flat] at hj
    by_cases hck : cap' = k1
    · have hN1k : N1 = k1 := by have := hk1.out; have := hN1.out; omega
      obtain ⟨w3, hcp, hown3, honly⟩ := come_copy hown.out k (by omega) 3 (cap' - k1) (N - k) ⟨g, 0, none⟩ hsa0 0 (.inr ⟨by omega, rfl⟩)
      have post := Rg.hid (hfin.out w3 hown3 honly)
      obtain ⟨c0, c1⟩ := hbox.out w3 honly
      obtain ⟨x0, c2, x1, c3⟩ := e9.out w3 hown3
      have t0 := hown3.thaw (k * 2)
      have t1 := hown3.thaw (k * 2 + 1)
      rw [← hN, ← hN1.out, ← hk1.out] at hcp
      rw [show (.int .i64 ((N - k : Nat) : Int) : Value) = .int .i64 (M : Int) by rw [hM.out]] at hcp
      clear hnil hsa0
      subst hck
      subst hNk
      subst hN1k
      rw [Nat.sub_self, Nat.sub_self] at hcp
      replace hcp := Rg.hid hcp
      replace hN := Rg.hid hN
      clear hown hown3 honly hfin hbox e9 hoth hsrc
      go_enter Tryz.func169, Tryz.ntmps169
      go_wp2_with (at_builtin; refine Rg.wpList_append_run rfl (.tmp 16) (.tmp 18) 25 rfl _ _ rfl rfl _ _ hap.out ?_)
      rw [hcp.out]
      simp only [Result.andThen]
      rw [Oper.upon_value]
      go_wp2
      go_ret
      exact post.out
    · obtain ⟨w3, hcp, hown3, honly⟩ := come_copy hown.out k (by omega) 3 (cap' - k1) (N - k) ⟨g, 0, none⟩ hsa0 (k1 * 2) (.inl (by rw [hk1.out]))
      have post := Rg.hid (hfin.out w3 hown3 honly)
      obtain ⟨c0, c1⟩ := hbox.out w3 honly
      obtain ⟨x0, c2, x1, c3⟩ := e9.out w3 hown3
      have t0 := hown3.thaw (k * 2)
      have t1 := hown3.thaw (k * 2 + 1)
      rw [← hN, ← hN1.out, ← hk1.out] at hcp
      rw [show (.int .i64 ((N - k : Nat) : Int) : Value) = .int .i64 (M : Int) by rw [hM.out]] at hcp
      clear hnil hsa0
      subst hNk
      rw [Nat.sub_self] at hcp
      replace hcp := Rg.hid hcp
      replace hN := Rg.hid hN
      clear hown hown3 honly hfin hbox e9 hoth hsrc
      go_enter Tryz.func169, Tryz.ntmps169
      go_wp2_with (at_builtin; refine Rg.wpList_append_run rfl (.tmp 16) (.tmp 18) 25 rfl _ _ rfl rfl _ _ hap.out ?_)
      rw [hcp.out]
      simp only [Result.andThen]
      rw [Oper.upon_value]
      go_wp2
      go_ret
      exact post.out
  · have hck : ¬ cap' = k1 := by have := hk1.out; have := hN1.out; omega
    obtain ⟨w3, hcp, hown3, honly⟩ := come_copy hown.out k (by omega) 3 (cap' - k1) (N - k) ⟨g, k * 2, none⟩ hsrc.out.add (k1 * 2) (.inl (by rw [hk1.out]))
    have post := Rg.hid (hfin.out w3 hown3 honly)
    obtain ⟨c0, c1⟩ := hbox.out w3 honly
    obtain ⟨x0, c2, x1, c3⟩ := e9.out w3 hown3
    have t0 := hown3.thaw (k * 2)
    have t1 := hown3.thaw (k * 2 + 1)
    rw [← hN, ← hN1.out, ← hk1.out] at hcp
    rw [show (.int .i64 ((N - k : Nat) : Int) : Value) = .int .i64 (M : Int) by rw [hM.out]] at hcp
    replace hcp := Rg.hid hcp
    replace hN := Rg.hid hN
    clear hown hown3 honly hfin hbox e9 hoth hsrc
    go_enter Tryz.func169, Tryz.ntmps169
    go_wp2_with (at_builtin; refine Rg.wpList_append_run rfl (.tmp 16) (.tmp 18) 25 rfl _ _ rfl rfl _ _ hap.out ?_)
    rw [hcp.out]
    simp only [Result.andThen]
    rw [Oper.upon_value]
    go_wp2
    go_ret
    exact post.out
end Go.Proofs.YtmilfamjkiemaaaGreatDoor
