/-
  Layer 6: the document's disk: Files.
-/
import Derived.Test.YtempiajepomajaaRf4
namespace Go.Proofs.Ytempiajepomajaa
open Go.RowKit

/-- files in a row -/
def RFPost (w : World) (l : List Dsk.Fl) (e : Ending) (w' : World) : Prop := ∃ a c, e = .returned (.slice a l.length c) ∧ fileE.Row w' a l ∧ l.length ≤ c ∧ Below w.heap.size w w'

set_option maxHeartbeats 2000000 in
set_option maxRecDepth 100000 in
theorem rfiles_up (v : Value) (d : Dsk.Dk) (w : World) (hd : Dsk.Ok d) (hdn : d.down = false) (h : DAt w v d) :
    Calls Try.prog 20 #[v] w fun e w' => RPost w (Dsk.files d) e w' := by
  obtain ⟨i0, hi, hz0, hz1, hz2⟩ := infoFile'
  obtain ⟨sa, sc, oa, oc, rfl, hS, hO, hsc, hoc⟩ := h
  obtain ⟨safe, ops, cap, fuse, down⟩ := d
  have hwt := hd.wt
  have hsr := hd.srt
  unfold dval
  dsimp only at *
  have hls := Dsk.len_used safe
  have hlo := Dsk.len_wt ops
  subst hdn
  · have hfl : Hid (Dsk.files ⟨safe, ops, cap, fuse, false⟩ = Dsk.behind safe ops) := rfl
    generalize Dsk.files ⟨safe, ops, cap, fuse, false⟩ = l' at *
    obtain ⟨SN, hSN⟩ : ∃ SN, SN = safe.length := ⟨_, rfl⟩
    obtain ⟨ON, hON⟩ : ∃ ON, ON = ops.length := ⟨_, rfl⟩
    have hbox : Rg.Bk w.heap.size [.slice sa SN sc, .slice oa ON oc, .int .i64 cap, .int .i64 fuse, .bool false] 28 ((w.alloc (.cells #[.slice sa SN sc, .slice oa ON oc, .int .i64 cap, .int .i64 fuse, .bool false] 28)).alloc (.cells #[] 53)) := (Rg.Bk.new rfl).old _
    have hbw2 := Rg.al2 w (.cells #[.slice sa SN sc, .slice oa ON oc, .int .i64 cap, .int .i64 fuse, .bool false] 28) (.cells #[] 53)
    have hown0 : fileE.Own w.heap.size ((w.alloc (.cells #[.slice sa SN sc, .slice oa ON oc, .int .i64 cap, .int .i64 fuse, .bool false] 28)).alloc (.cells #[] 53)) (w.heap.size + 1) 0 [] [] := ⟨Rg.Bk.new (C := []) (by simp), by omega, Nat.le_refl _, Nat.zero_le _, Nat.le_refl _⟩
    obtain ⟨g3, cap3, rest3, w3, hap3, hown3, hb3, hoth3, hg3⟩ := hown0.appendRow (P := Try.prog) safe 25 25 i0 _ 32 Try.underlying25 hi hz0 hz1 hz2 rfl sa sc (hS.below hbw2) hbw2.size (by simp; omega) (by unfold maxLen; simp; omega)
    rw [List.nil_append] at hown3
    rw [show ([] : List Dsk.Fl).length + safe.length = safe.length by simp, ← hSN] at hap3
    have hap3 : Hid ((Builtin.append_ #[25, 25] 25 #[.slice (some ⟨w.heap.size + 1, 0, none⟩) 0 0, .slice sa SN sc]).run Try.prog ((w.alloc (.cells #[.slice sa SN sc, .slice oa ON oc, .int .i64 cap, .int .i64 fuse, .bool false] 28)).alloc (.cells #[] 53)) = .ok (.slice (some ⟨g3, 0, none⟩) SN cap3) w3) := hap3
    have hbw3 := hbw2.trans hb3
    have k1 : w3.cell? ⟨w.heap.size, 1, none⟩ = some (.slice oa ON oc) := (hbox.same (hoth3 w.heap.size (by simp; omega) (by omega))).cell 1
    have hrow3 : fileE.Row w3 (some ⟨g3, 0, none⟩) safe := hown3.toRow
    have hcap3 : SN ≤ cap3 := by rw [hSN]; exact hown3.le
    have hO3 := Rg.hid (hO.below hbw3)
    rw [← hSN, ← hON]
    replace hrow3 := Rg.hid hrow3
    have hls2 : SN ≤ 1000000000 := by omega
    have hON2 : ON ≤ 1000000000 := by omega
    replace hSN := Rg.hid hSN
    replace hON := Rg.hid hON
    replace hwt := Rg.hid hwt
    clear hown3 hb3 hoth3 hg3 hown0 hbw2 hbox hi hz0 hz1 hz2 hS hO hls hlo hd
    go_enter Try.func20, Try.ntmps20
    go_upto_region 4 with (at_builtin; refine Rg.wpList_append_run rfl (.tmp 8) (.tmp 10) 25 rfl _ _ rfl rfl _ _ hap3.out ?_)
    obtain ⟨B, hBd⟩ : ∃ B, B = w.heap.size := ⟨_, rfl⟩
    rw [← hBd] at k1 ⊢
    clear hap3 hBd
    go_wp2
    go_loopw [3, 15] (fun vl vi wr => ∃ (i g c LN : Nat), i ≤ ON ∧ vi = .int .i64 i ∧ vl = .slice (some ⟨g, 0, none⟩) LN c ∧ Hid (LN = (Dsk.behind safe (ops.take i)).length) ∧ LN ≤ c ∧ Hid (fileE.Row wr (some ⟨g, 0, none⟩) (Dsk.behind safe (ops.take i))) ∧ Below w3.heap.size w3 wr) (fun _ vi _ => ON - (intOf vi).toNat)
    case atStart => exact ⟨0, g3, cap3, SN, Nat.zero_le _, rfl, rfl, hSN, hcap3, hrow3, Below.refl _ _⟩
    case round =>
      obtain ⟨i, g, c, LN, hin, rfl, rfl, hLN, hcc, hrow, hbw⟩ := hrel
      clear k1
      by_cases hlt : i < ON
      · have hil : i < ops.length := by rw [← hON.out]; exact hlt
        obtain ⟨b, o, rfl, hb, hat⟩ : ∃ b o, oa = some ⟨b, o, none⟩ ∧ b < w3.heap.size ∧ Rg.At w3 b o (opE.flat ops) := by
          rcases hO3.out with ⟨_, h⟩ | h
          · rw [h] at hil; simp at hil
          · exact h
        have at1 : Rg.At wr b (o + i * 4) (opE.enc ops[i]) := (hat.elem hil).below hbw hb
        have hnx := Dsk.behind_take safe ops i hil
        have hwi := Dsk.wt_take ops i hil
        have hub := Dsk.used_behind safe (ops.take i)
        have hlu := Dsk.len_used (Dsk.behind safe (ops.take i))
        have hwt' := hwt.out
        generalize ops[i] = op at *
        obtain ⟨L', hL'⟩ : ∃ L', L' = Dsk.behind safe (ops.take (i + 1)) := ⟨_, rfl⟩
        rw [← hL'] at hnx
        replace hL' := Rg.hid hL'
        generalize Dsk.behind safe (ops.take i) = L at *
        obtain ⟨ok, on, ot, od⟩ := op
        obtain ⟨c0, c1, c2, c3⟩ := op_at at1
        dsimp only at hwi
        have hL1 : L.length ≤ 1000000000 := by omega
        have hL2 : Dsk.used L + od.size ≤ 1000000000000 := by omega
        have HAf : Hid (∀ W, Below wr.heap.size wr W → Calls Try.prog 46 #[.slice (some ⟨g, 0, none⟩) LN c, .agg #[.int .i64 ok, .string on, .string ot, .string od]] W fun e w' => RPost W L' e w') := fun W hW => by
          have := rafter_any g c L ok on ot od W hL1 hL2 (by rw [← hLN.out]; exact hcc) (hrow.out.below hW)
          rw [← hLN.out, ← hnx] at this; exact this
        have hz0 : (0 : Int) ≤ (i : Int) := by omega
        have hz1 : (i : Int) < (ON : Int) := by omega
        have bn := hbw.alloc hbw.size (.cells #[.int .i64 ok, .string on, .string ot, .string od] 56)
        clear at1 hat hil hO3 hwi hub hlu hwt' hL1 hL2 hnx hrow hLN
        go_wp2_with (go_at_call 46; refine (HAf.out _ (Rg.al1 _ _)).mono ?_)
        rintro e w9 ⟨g9, cap9, rfl, r9, c9, b9⟩
        replace r9 := Rg.hid r9
        have hb9 := Rg.chain bn b9
        clear b9 HAf bn
        obtain ⟨M9, hM9⟩ : ∃ M9, M9 = L'.length := ⟨_, rfl⟩
        rw [← hM9] at c9 ⊢
        replace hM9 := Rg.hid hM9
        go_wp2
        go_roundw
        case rel => exact ⟨i + 1, g9, cap9, M9, by omega, by go_num, rfl, by rw [← hL'.out]; exact hM9, c9, by rw [← hL'.out]; exact r9, hb9⟩
        case measure => simp [intOf]; omega
      · obtain rfl : i = ON := by omega
        have htk : ops.take i = ops := List.take_of_length_le (by rw [← hON.out]; exact Nat.le_refl _)
        rw [htk] at hLN hrow
        have hpost : Hid (RPost w l' (.returned (.slice (some ⟨g, 0, none⟩) LN c)) wr) := ⟨g, c, by rw [hfl.out, hLN.out], by rw [hfl.out]; exact hrow.out, by rw [hfl.out, ← hLN.out]; exact hcc, Rg.chain hbw3 hbw⟩
        clear hLN hrow htk hfl
        go_wp2
        go_ret
        exact hpost.out

set_option maxHeartbeats 2000000 in
set_option maxRecDepth 100000 in
theorem rfiles_any (v : Value) (d : Dsk.Dk) (w : World) (hd : Dsk.Ok d) (h : DAt w v d) :
    Calls Try.prog 20 #[v] w fun e w' => RFPost w (Dsk.files d) e w' := by
  cases hdn : d.down
  · exact (rfiles_up v d w hd hdn h).mono fun e w' ⟨g, c, h1, h2, h3, h4⟩ => ⟨_, c, h1, h2, h3, h4⟩
  obtain ⟨sa, sc, oa, oc, rfl, hS, hO, hsc, hoc⟩ := h
  obtain ⟨safe, ops, cap, fuse, down⟩ := d
  have hwt := hd.wt
  have hsr := hd.srt
  unfold dval
  dsimp only at *
  subst hdn
  · have hfl : Hid (Dsk.files ⟨safe, ops, cap, fuse, true⟩ = []) := rfl
    generalize Dsk.files ⟨safe, ops, cap, fuse, true⟩ = l' at *
    obtain rfl := hfl.out
    generalize safe.length = SN at *
    generalize ops.length = ON at *
    clear hS hO hd hwt hsr hfl
    go_enter Try.func20, Try.ntmps20
    go_wp2
    go_ret
    exact ⟨none, 0, rfl, .inl ⟨rfl, rfl⟩, Nat.le_refl _, Rg.al1 _ _⟩
end Go.Proofs.Ytempiajepomajaa
