/-
  Layer 6: rows of files that are copied, cut and grown.
-/
import Derived.Test.YtempiajepomajaaDk2
import Derived.Lib.SliceRun
import Derived.Laws.AppendOwn
import Derived.Deep.RegionHeld3
namespace Go.Proofs.Ytempiajepomajaa
open Go.RowKit

theorem infoFile : (Try.prog.info? 53).map (fun i => (i.zero, i.size, i.bytes)) = some (some (.agg #[.string ByteArray.empty, .string ByteArray.empty]), 2, 32) := by kernel_rfl
theorem infoFile' : ∃ i0, Try.prog.info? 53 = some i0 ∧ i0.zero = some (.agg #[.string ByteArray.empty, .string ByteArray.empty]) ∧ i0.size = 2 ∧ i0.bytes = 32 := by
  have := infoFile
  cases h : Try.prog.info? 53 with
  | none => rw [h] at this; cases this
  | some i => rw [h] at this; simp only [Option.map_some, Option.some.injEq, Prod.mk.injEq] at this; exact ⟨i, rfl, this.1, this.2.1, this.2.2⟩
theorem sizeFile : (Try.prog.info? 53).map (·.size) = some 2 := by kernel_rfl

/-- files of one's own -/
def FOwn (base : Nat) (W : World) (v : Value) (l : List Dsk.Fl) : Prop := (v = .slice none 0 0 ∧ l = []) ∨ ∃ g cap rest, v = .slice (some ⟨g, 0, none⟩) l.length cap ∧ fileE.Own base W g cap l rest
theorem FOwn.below {base : Nat} {W W' : World} {v : Value} {l : List Dsk.Fl} (h : FOwn base W v l) (hb : Below W.heap.size W W') : FOwn base W' v l := by
  rcases h with h | ⟨g, cap, rest, h1, h2⟩
  · exact .inl h
  · exact .inr ⟨g, cap, rest, h1, h2.below hb⟩
theorem FOwn.mono {base base' : Nat} {W : World} {v : Value} {l : List Dsk.Fl} (h : FOwn base W v l) (hb : base' ≤ base) : FOwn base' W v l := by
  rcases h with h | ⟨g, cap, rest, h1, h2⟩
  · exact .inl h
  · exact .inr ⟨g, cap, rest, h1, ⟨h2.blk, Nat.le_trans hb h2.new, h2.le, h2.max, h2.fit⟩⟩
/-- behind Clone -/
def ClonePost (w : World) (l : List Dsk.Fl) (e : Ending) (w' : World) : Prop := ∃ v, e = .returned v ∧ FOwn w.heap.size w' v l ∧ Below w.heap.size w w'

set_option maxHeartbeats 2000000 in
set_option maxRecDepth 100000 in
theorem clone_any (a : Option Addr) (c : Nat) (l : List Dsk.Fl) (w : World) (hn : l.length ≤ 1000000000) (hrow : fileE.Row w a l) :
    Calls Try.prog 59 #[.slice a l.length c] w fun e w' => ClonePost w l e w' := by
  have q22 : ∀ (w : World) (a : Option Addr) (n c n' c' : Nat), (binOp .eql 25 (.slice a n c) (.slice none n' c')).run Try.prog w = .ok (.bool a.isNone) w := fun w a n c n' c' => Lib.run_eql_slice_nil w _ _ a n c n' c' Try.underlying25
  rcases hrow with ⟨rfl, rfl⟩ | ⟨b, o, rfl, hb, hc⟩
  · go_enter Try.func59, Try.ntmps59
    go_wp2
    go_ret
    exact ⟨_, rfl, .inl ⟨rfl, rfl⟩, Below.refl _ _⟩
  · obtain ⟨i0, hi, hz0, hz1, hz2⟩ := infoFile'
    have hb0 := Rg.al1 w (.cells #[] 53)
    have hcells := Rg.hid (hc.below hb0 hb).add
    have hlen : (fileE.flat l).length = l.length * 2 := fileE.flat_length l
    have h1 := Rg.hid (fileE.flat_cells l)
    obtain ⟨news, hnews⟩ : ∃ x, x = fileE.flat l := ⟨_, rfl⟩
    rw [← hnews] at hcells hlen h1
    obtain ⟨N, hN⟩ : ∃ N, N = l.length := ⟨_, rfl⟩
    rw [← hN] at hlen hn
    have hpost : Hid (∀ v' w', w'.ownsRow w.heap.size 53 2 v' N news → ¬ v' = .slice none 0 0 → Below w.heap.size w w' → ClonePost w l (.returned v') w') := fun v' w' h1 h2 h3 => by
      rw [hnews] at h1
      obtain ⟨g, cap, rest, h4, h5⟩ := Rg.El.Own.of (E := fileE) h1 h2 hN
      exact ⟨v', rfl, .inr ⟨g, cap, rest, h4, h5⟩, h3⟩
    rw [← hN]
    replace hnews := Rg.hid hnews
    replace hN := Rg.hid hN
    clear hc
    go_enter Try.func59, Try.ntmps59
    go_wp2_with (at_builtin; refine wpList_append_own _ rfl _ _ 25 rfl w.heap.size 53 i0 (.agg #[.string ByteArray.empty, .string ByteArray.empty]) 2 32 Try.underlying25 hi hz0 hz1 hz2 rfl (by decide) _ _ _ rfl (World.ownsRow_made w #[] 0 (Nat.le_refl _) (Nat.zero_le _) (by simp)) ⟨b, o, none⟩ N c news rfl ?c0 ?c1 ?c2 ?c3 ?c4 ?c5 ?_)
    case c0 => exact hlen
    case c1 => exact hcells.out
    case c2 => exact h1.out
    case c3 => unfold maxLen; omega
    case c4 => omega
    case c5 => simp
    intro v' w' hown hgrow hne
    have hne' := Rg.hid hne
    clear hne
    go_wp2
    go_ret
    refine hpost.out v' w' (by simpa using hown) hne'.out (hb0.grown hgrow (by simp) (fun k hk => by simp [Value.ownBlock] at hk; omega))

/-- behind leave: the row without one -/
def LeavePost (base g : Nat) (w : World) (l : List Dsk.Fl) (k : Nat) (e : Ending) (w' : World) : Prop := ∃ rest, e = .returned (.slice (some ⟨g, 0, none⟩) (l.length - 1) (l.length - 1)) ∧ fileE.Own base w' g (l.length - 1) (l.take k ++ l.drop (k + 1)) rest ∧ Rg.Only g w w'

set_option maxRecDepth 100000 in
theorem leave_copy {base g cap : Nat} {W : World} {l : List Dsk.Fl} {rest : List Value} (h : fileE.Own base W g cap l rest) (k : Nat) (hk : k < l.length) (ty : TypeId) (dc sc : Nat) (sa : Addr) (hsa : sa = ⟨g, (k + 1) * 2, none⟩ ∨ l.length = k + 1) :
    ∃ W' rest', (Builtin.copy_ #[25, 25] ty #[.slice (some ⟨g, k * 2, none⟩) (l.length - k) dc, .slice (some sa) (l.length - (k + 1)) sc]).run Try.prog W = .ok (.int .i64 ((l.length - (k + 1) : Nat) : Int)) W' ∧
      fileE.Own base W' g (l.length - 1) (l.take k ++ l.drop (k + 1)) rest' ∧ Rg.Only g W W' := by
  have hmin : Nat.min (l.length - (k + 1)) (l.length - k) = l.length - (k + 1) := Nat.min_eq_left (by omega)
  have hfl : (fileE.flat (l.drop (k + 1))).length = (l.length - (k + 1)) * 2 := by rw [fileE.flat_length, List.length_drop]; rfl
  have htot : (fileE.flat l ++ rest).length = l.length * 2 + rest.length := by rw [List.length_append, fileE.flat_length]; rfl
  have hsp : fileE.flat l ++ rest = (fileE.flat (l.take (k + 1))) ++ (fileE.flat (l.drop (k + 1)) ++ rest) := by rw [← List.append_assoc, ← fileE.flat_append, List.take_append_drop]
  have htk : (fileE.flat (l.take (k + 1))).length = (k + 1) * 2 := fileE.flat_take l (k + 1) (by omega)
  have hsrc : Rg.At W g ((k + 1) * 2) (fileE.flat (l.drop (k + 1))) := by
    have := h.row
    rw [← List.take_append_drop (k + 1) l, fileE.flat_append] at this
    have := this.right htk
    rw [Nat.zero_add] at this; exact this
  have hsrc' : ∀ j v, (fileE.flat (l.drop (k + 1)))[j]? = some v → W.cell? (sa.add j) = some v := by
    rcases hsa with rfl | e
    · exact hsrc.add
    · intro j v hj
      rw [List.drop_eq_nil_of_le (by omega)] at hj
      simp [Rg.El.flat] at hj
  have hr := Rg.run_copyG (P := Try.prog) W 25 25 ty 53 2 g (k * 2) (l.length - k) dc sa (l.length - (k + 1)) sc (fileE.flat l ++ rest).toArray 53 (fileE.flat (l.drop (k + 1))) Try.underlying25 sizeFile h.blk (by rw [hmin]; exact hfl) hsrc' (by rw [List.size_toArray, htot, hfl]; omega) (fileE.flat_cells _)
  rw [hmin] at hr
  have e1 : (fileE.flat l ++ rest).toArray.toList.take (k * 2) = fileE.flat (l.take k) := by
    have h2 : (fileE.flat (l.take k)).length = k * 2 := fileE.flat_take l k (by omega)
    show (fileE.flat l ++ rest).take (k * 2) = _
    rw [show fileE.flat l = fileE.flat (l.take k) ++ fileE.flat (l.drop k) by rw [← fileE.flat_append, List.take_append_drop], List.append_assoc, ← h2, List.take_left]
  refine ⟨_, (fileE.flat l ++ rest).drop (k * 2 + (fileE.flat (l.drop (k + 1))).length), hr, ⟨?_, h.new, ?_, Nat.le_trans (by have := h.le; omega) h.max, ?_⟩, Rg.Only.setRow W g _⟩
  · rw [setRow_heap W g _ _ _ _ h.blk, e1, fileE.flat_append]
  · simp; omega
  · rw [List.length_append, fileE.flat_length, List.length_drop, htot, hfl, List.length_append, List.length_take, List.length_drop]
    show (l.length - 1) * 2 ≤ _ * 2 + _
    omega

set_option maxHeartbeats 2000000 in
set_option maxRecDepth 100000 in
theorem leave_any (base g cap : Nat) (l : List Dsk.Fl) (rest : List Value) (k : Nat) (w : World) (hn : l.length ≤ 1000000000) (hk : k < l.length) (h : fileE.Own base w g cap l rest) :
    Calls Try.prog 67 #[.slice (some ⟨g, 0, none⟩) l.length cap, .int .i64 k] w fun e w' => LeavePost base g w l k e w' := by
  have hcap := h.le
  obtain ⟨N, hN⟩ : ∃ N, N = l.length := ⟨_, rfl⟩
  obtain ⟨k1, hk1⟩ : ∃ k1, k1 = k + 1 := ⟨_, rfl⟩
  obtain ⟨M, hM⟩ : ∃ M, M = N - k1 := ⟨_, rfl⟩
  obtain ⟨N1, hN1⟩ : ∃ N1, N1 = N - 1 := ⟨_, rfl⟩
  have e0 : (0 : Int) ≤ (k : Int) := by omega
  have e1 : (k : Int) ≤ (N : Int) := by omega
  have e2 : (0 : Int) ≤ (k1 : Int) := by omega
  have e3 : (k1 : Int) ≤ (N : Int) := by omega
  have e5 : (N : Int) ≤ (cap : Int) := by omega
  have e7 : IntKind.i64.wrap ((k : Int) + 1) = (k1 : Int) := by rw [IntKind.wrap_i64]; omega
  have e8 : IntKind.i64.wrap ((k : Int) + (M : Int)) = (N1 : Int) := by rw [IntKind.wrap_i64]; omega
  have e9 : (0 : Int) ≤ (N1 : Int) := by omega
  have e10 : (N1 : Int) ≤ (cap : Int) := by omega
  have e11 : ¬ cap = k := by omega
  obtain ⟨sa, hsa, hsae⟩ : ∃ sa : Addr, (sa = ⟨g, (k + 1) * 2, none⟩ ∨ l.length = k + 1) ∧ sa = if cap = k1 then ⟨g, 0, none⟩ else ⟨g, k1 * 2, none⟩ := by
    by_cases hc : cap = k1
    · exact ⟨_, .inr (by omega), rfl⟩
    · exact ⟨_, .inl (by rw [if_neg hc, hk1]), rfl⟩
  obtain ⟨W', rest', hcp, hown, honly⟩ := leave_copy h.drew k hk 3 (cap - k) (cap - (k + 1)) sa hsa
  have hpost : Hid (LeavePost base g w l k (.returned (.slice (some ⟨g, 0, none⟩) (l.length - 1) (l.length - 1))) W') := ⟨rest', rfl, hown, (Rg.Only.drew w g).trans honly⟩
  rw [← hk1, ← hN] at hcp
  rw [show (.int .i64 ((N - k1 : Nat) : Int) : Value) = .int .i64 (M : Int) by rw [hM]] at hcp
  rw [← hN] at hpost hcap hk hn ⊢
  rw [← hN1] at hpost
  replace hN := Rg.hid hN
  replace hk1 := Rg.hid hk1
  replace hM := Rg.hid hM
  replace hN1 := Rg.hid hN1
  clear h hown honly hsa
  by_cases hc : cap = k1
  · rw [if_pos hc] at hsae
    subst hsae
    subst hc
    rw [show N - cap = 0 by omega, Nat.sub_self] at hcp
    replace hcp := Rg.hid hcp
    go_enter Try.func67, Try.ntmps67
    go_wp2
    go_region_held3 (fun w' => Rg.Free w') (exact Rg.free _) ((refine Rg.step_copy_run (by rfl) (.tmp 9) (.tmp 13) 25 25 (by rfl) _ _ (by rfl) (by rfl) hcp.out ?_))
    go_wp2
    go_ret
    exact hpost.out
  · rw [if_neg hc] at hsae
    subst hsae
    replace hcp := Rg.hid hcp
    go_enter Try.func67, Try.ntmps67
    go_wp2
    go_region_held3 (fun w' => Rg.Free w') (exact Rg.free _) ((refine Rg.step_copy_run (by rfl) (.tmp 9) (.tmp 13) 25 25 (by rfl) _ _ (by rfl) (by rfl) hcp.out ?_))
    go_wp2
    go_ret
    exact hpost.out
end Go.Proofs.Ytempiajepomajaa
