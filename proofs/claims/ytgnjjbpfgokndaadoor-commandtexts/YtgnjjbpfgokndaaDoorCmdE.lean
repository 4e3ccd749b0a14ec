/-
  Walks of layer 10: what is read out of a text.
-/
import Derived.Test.YtgnjjbpfgokndaaDoorCmdC
import Derived.Test.YtgnjjbpfgokndaaDoorRowH
namespace Go.Proofs.YtgnjjbpfgokndaaDoor
open Go.RowKit

/-- a word's value, and its cells -/
def cl (c : Cmd.Cw) : List Value := [.int .i64 c.v, .int .i64 c.j.g, .int .i64 c.j.n, .int .i64 c.j.k, .string c.j.u, .string c.j.f, .string c.j.t, .string c.j.c, .int .i64 c.j.z, .int .i64 c.a]
def cv (c : Cmd.Cw) : Value := .agg (cl c).toArray
abbrev czero : List Value := [.int .i64 0, .int .i64 0, .int .i64 0, .int .i64 0, .string ⟨#[]⟩, .string ⟨#[]⟩, .string ⟨#[]⟩, .string ⟨#[]⟩, .int .i64 0, .int .i64 0]
theorem ret10 {b B : Nat} {w W : World} {C : List Value} {ty : TypeId} (h : Rg.Bk b C ty W) (hC : C.length = 10) (hb : Below B w W) (hB : B ≤ b) (v0 v1 v2 v3 v4 v5 v6 v7 v8 v9 : Value) :
    Rg.Bk b [v0, v1, v2, v3, v4, v5, v6, v7, v8, v9] ty ((((((((((W.setCell ⟨b, 0, none⟩ v0).setCell ⟨b, 1, none⟩ v1).setCell ⟨b, 2, none⟩ v2).setCell ⟨b, 3, none⟩ v3).setCell ⟨b, 4, none⟩ v4).setCell ⟨b, 5, none⟩ v5).setCell ⟨b, 6, none⟩ v6).setCell ⟨b, 7, none⟩ v7).setCell ⟨b, 8, none⟩ v8).setCell ⟨b, 9, none⟩ v9) ∧ Below B w ((((((((((W.setCell ⟨b, 0, none⟩ v0).setCell ⟨b, 1, none⟩ v1).setCell ⟨b, 2, none⟩ v2).setCell ⟨b, 3, none⟩ v3).setCell ⟨b, 4, none⟩ v4).setCell ⟨b, 5, none⟩ v5).setCell ⟨b, 6, none⟩ v6).setCell ⟨b, 7, none⟩ v7).setCell ⟨b, 8, none⟩ v8).setCell ⟨b, 9, none⟩ v9) := by
  refine ⟨?_, ?_⟩
  · match C, hC with
    | [_, _, _, _, _, _, _, _, _, _], _ => exact ((((((((((h.set 0 v0).set 1 v1).set 2 v2).set 3 v3).set 4 v4).set 5 v5).set 6 v6).set 7 v7).set 8 v8).set 9 v9)
  · exact ((((((((((hb.setCell (p := ⟨b, 0, none⟩) hB v0).setCell (p := ⟨b, 1, none⟩) hB v1).setCell (p := ⟨b, 2, none⟩) hB v2).setCell (p := ⟨b, 3, none⟩) hB v3).setCell (p := ⟨b, 4, none⟩) hB v4).setCell (p := ⟨b, 5, none⟩) hB v5).setCell (p := ⟨b, 6, none⟩) hB v6).setCell (p := ⟨b, 7, none⟩) hB v7).setCell (p := ⟨b, 8, none⟩) hB v8).setCell (p := ⟨b, 9, none⟩) hB v9)

namespace Cmd
theorem cut_pp (s : Bs) : (Lib.cut s [32]).1 = Job.pre s ∧ (Lib.cut s [32]).2.1 = Job.post s := by
  by_cases h : (32 : UInt8) ∈ s
  · obtain ⟨a, r, rfl, ha⟩ := List.eq_append_cons_of_mem h
    have e := Job.index_at a r ha
    unfold Lib.cut
    rw [e, if_pos (by omega), Job.pre_app (Job.nb_np ha), Job.post_app (Job.nb_np ha)]
    simp
  · unfold Lib.cut
    rw [Job.index_nb s h, if_neg (by decide), Job.pre_all (Job.nb_np h), Job.post_all (Job.nb_np h)]
    exact ⟨rfl, rfl⟩
end Cmd

theorem verbOfKind_any (k : Int) (w : World) : Calls Tryd.prog 33 #[.int .i64 k] w fun e w' => e = .returned (.int .i64 (Cmd.vok k)) ∧ w' = w := by
  by_cases h : k = 3
  · subst h
    have hr : Hid (Cmd.vok 3 = 2) := rfl
    go_enter Tryd.func33, Tryd.ntmps33
    go_wp2
    go_ret
    exact ⟨ret_int hr.out.symm, rfl⟩
  · have hr : Hid (Cmd.vok k = 1) := if_neg h
    have d := beq0 h
    clear h
    go_enter Tryd.func33, Tryd.ntmps33
    go_wp2
    go_ret
    exact ⟨ret_int hr.out.symm, rfl⟩

set_option maxHeartbeats 1000000 in
theorem verbOfLetter_any (s : ByteArray) (w : World) : Calls Tryd.prog 36 #[.string s] w fun e w' => e = .returned (.int .i64 (Cmd.vol s.data.toList)) ∧ w' = w := by
  by_cases h72 : s.data.toList = [72]
  · have hr : Hid (Cmd.vol s.data.toList = 3) := by show _ = _; unfold Cmd.vol; rw [if_pos h72]
    have e72 := sbeq1 h72
    clear h72
    go_enter Tryd.func36, Tryd.ntmps36
    go_wp2
    go_ret
    exact ⟨ret_int hr.out.symm, rfl⟩
  have e72 := sbeq h72
  by_cases h89 : s.data.toList = [89]
  · have hr : Hid (Cmd.vol s.data.toList = 4) := by show _ = _; unfold Cmd.vol; rw [if_neg h72, if_pos h89]
    have e89 := sbeq1 h89
    clear h72 h89
    go_enter Tryd.func36, Tryd.ntmps36
    go_wp2
    go_ret
    exact ⟨ret_int hr.out.symm, rfl⟩
  have e89 := sbeq h89
  by_cases h78 : s.data.toList = [78]
  · have hr : Hid (Cmd.vol s.data.toList = 5) := by show _ = _; unfold Cmd.vol; rw [if_neg h72, if_neg h89, if_pos h78]
    have e78 := sbeq1 h78
    clear h72 h89 h78
    go_enter Tryd.func36, Tryd.ntmps36
    go_wp2
    go_ret
    exact ⟨ret_int hr.out.symm, rfl⟩
  have e78 := sbeq h78
  by_cases h67 : s.data.toList = [67]
  · have hr : Hid (Cmd.vol s.data.toList = 6) := by show _ = _; unfold Cmd.vol; rw [if_neg h72, if_neg h89, if_neg h78, if_pos h67]
    have e67 := sbeq1 h67
    clear h72 h89 h78 h67
    go_enter Tryd.func36, Tryd.ntmps36
    go_wp2
    go_ret
    exact ⟨ret_int hr.out.symm, rfl⟩
  have e67 := sbeq h67
  by_cases h70 : s.data.toList = [70]
  · have hr : Hid (Cmd.vol s.data.toList = 7) := by show _ = _; unfold Cmd.vol; rw [if_neg h72, if_neg h89, if_neg h78, if_neg h67, if_pos h70]
    have e70 := sbeq1 h70
    clear h72 h89 h78 h67 h70
    go_enter Tryd.func36, Tryd.ntmps36
    go_wp2
    go_ret
    exact ⟨ret_int hr.out.symm, rfl⟩
  have e70 := sbeq h70
  have hr : Hid (Cmd.vol s.data.toList = 0) := by show _ = _; unfold Cmd.vol; rw [if_neg h72, if_neg h89, if_neg h78, if_neg h67, if_neg h70]
  clear h72 h89 h78 h67 h70
  go_enter Tryd.func36, Tryd.ntmps36
  go_wp2
  go_ret
  exact ⟨ret_int hr.out.symm, rfl⟩

theorem cut_any (s : ByteArray) (w : World) (hm : MaxIn w) (hs : s.size ≤ 1000000) :
    Calls Tryd.prog 34 #[.string s, .string ⟨#[32]⟩] w fun e w' => (∃ q : Bool, e = .returned (.tuple #[.string ⟨(Job.pre s.data.toList).toArray⟩, .string ⟨(Job.post s.data.toList).toArray⟩, .bool q])) ∧ Below w.heap.size w w' := by
  obtain ⟨m, hm⟩ := hm
  refine (Tryd.strings_Cut s ⟨#[32]⟩ m w (by omega) hm).mono fun e w' ⟨h1, k, h2⟩ => ⟨⟨(Lib.cut s.data.toList [32]).2.2, ?_⟩, ?_⟩
  · rw [h1]
    obtain ⟨p1, p2⟩ := Cmd.cut_pp s.data.toList
    rw [show (⟨#[32]⟩ : ByteArray).data.toList = [32] from rfl, p1, p2]
  · rw [h2]; exact below_drewN (Below.refl _ _) _

def CutPost (w : World) (s : ByteArray) (e : Ending) (w' : World) : Prop := (∃ q : Bool, e = .returned (.tuple #[.string ⟨(Job.pre s.data.toList).toArray⟩, .string ⟨(Job.post s.data.toList).toArray⟩, .bool q])) ∧ Below w.heap.size w w' ∧ Rg.Bk w.heap.size czero 27 w'
set_option maxHeartbeats 2000000 in
set_option maxRecDepth 100000 in
theorem cread_any (s : ByteArray) (w : World) (hw : Ok w) (hs : s.size ≤ 1000000) :
    Calls Tryd.prog 21 #[.string s] w fun e w' => e = .returned (cv (Cmd.cand s.data.toList)) ∧ Below w.heap.size w w' := by
  have bw : Below w.heap.size w (w.alloc (.cells czero.toArray 27)) := below_alloc1 w _
  have hB0 : Rg.Bk w.heap.size czero 27 (w.alloc (.cells czero.toArray 27)) := Rg.Bk.new rfl
  have HP : Hid (Calls Tryd.prog 32 #[.string s] (w.alloc (.cells czero.toArray 27)) fun e w' => e = .returned (.tuple #[jv (Job.parse s.data.toList).1, .int .i64 (Job.parse s.data.toList).2]) ∧ Below w.heap.size w w' ∧ Rg.Bk w.heap.size czero 27 w') :=
    (parse_any s _ (hw.below bw) hs).mono fun e w' ⟨h1, h2⟩ => ⟨h1, bw.trans (h2.mono bw.size), hB0.below h2 (by simp)⟩
  rcases Job.parse_cases s.data.toList with ⟨j, hj, hp⟩ | ⟨_, hp⟩
  · obtain ⟨g, n, k, u, f, t, c, z⟩ := j
    have hr : Hid (Cmd.cand s.data.toList = ⟨Cmd.vok k, ⟨g, n, k, u, f, t, c, z⟩, 0⟩) := by show _ = _; unfold Cmd.cand; rw [hp, if_pos rfl]
    rw [hp] at HP
    unfold jv at HP
    have HV : Hid (∀ W, Calls Tryd.prog 33 #[.int .i64 k] W fun e w' => e = .returned (.int .i64 (Cmd.vok k)) ∧ w' = W) := fun W => verbOfKind_any k W
    generalize Cmd.vok k = v at *
    clear hp hj hw hs hB0
    go_enter Tryd.func21, Tryd.ntmps21
    go_upto_region 3 with (go_at_call 32; refine HP.out.mono ?_; rintro e w1 ⟨rfl, b1, k1⟩)
    have kJ : Rg.Bk w1.heap.size [.int .i64 g, .int .i64 n, .int .i64 k, .string u, .string f, .string t, .string c, .int .i64 z] 25 (w1.alloc (.cells #[.int .i64 g, .int .i64 n, .int .i64 k, .string u, .string f, .string t, .string c, .int .i64 z] 25)) := Rg.Bk.new rfl
    have kR : Rg.Bk w.heap.size czero 27 (w1.alloc (.cells #[.int .i64 g, .int .i64 n, .int .i64 k, .string u, .string f, .string t, .string c, .int .i64 z] 25)) := k1.old _
    have bR : Below w.heap.size w (w1.alloc (.cells #[.int .i64 g, .int .i64 n, .int .i64 k, .string u, .string f, .string t, .string c, .int .i64 z] 25)) := b1.alloc b1.size _
    have zn := k1.lt
    have hne : w1.heap.size ≠ w.heap.size := by have := k1.lt; omega
    have hne' : ¬ (w.heap.size = w1.heap.size) := by omega
    generalize w1.heap.size = m at *
    generalize (w1.alloc (.cells #[.int .i64 g, .int .i64 n, .int .i64 k, .string u, .string f, .string t, .string c, .int .i64 z] 25)) = W1 at *
    have c1 := kR.cell; have f1 := kR.thaw; have z1 := kR.lt; have z2 := kJ.lt
    have i0 := kJ.cell 0; have i1 := kJ.cell 1; have i2 := kJ.cell 2; have i3 := kJ.cell 3; have i4 := kJ.cell 4; have i5 := kJ.cell 5; have i6 := kJ.cell 6; have i7 := kJ.cell 7
    simp only [List.getElem?_cons_zero, List.getElem?_cons_succ] at i0 i1 i2 i3 i4 i5 i6 i7
    go_region_held3 (fun w' => w'.cell? ⟨m, 0, none⟩ = some (.int .i64 g) ∧ w'.cell? ⟨m, 1, none⟩ = some (.int .i64 n) ∧ w'.cell? ⟨m, 2, none⟩ = some (.int .i64 k) ∧ w'.cell? ⟨m, 3, none⟩ = some (.string u) ∧ w'.cell? ⟨m, 4, none⟩ = some (.string f) ∧ w'.cell? ⟨m, 5, none⟩ = some (.string t) ∧ w'.cell? ⟨m, 6, none⟩ = some (.string c) ∧ w'.cell? ⟨m, 7, none⟩ = some (.int .i64 z)) (go_keep) (first | (go_at_call 33; refine (HV.out _).mono ?_; rintro e w' ⟨rfl, rfl⟩))
    have hk := ret10 kR rfl bR (Nat.le_refl _) (.int .i64 v) (.int .i64 g) (.int .i64 n) (.int .i64 k) (.string u) (.string f) (.string t) (.string c) (.int .i64 z) (.int .i64 0)
    clear c1 f1 z1 z2 i0 i1 i2 i3 i4 i5 i6 i7 kJ kR bR HP HV bw
    go_wp2
    generalize World.setCell _ _ _ = WE at *
    obtain ⟨kE, bE⟩ := hk
    have cE := kE.cell
    exact bodyPost_ret (v := cv ⟨v, ⟨g, n, k, u, f, t, c, z⟩, 0⟩) (by simp [results, Tryd.results21, go_sem, cE, cv, cl]) rfl ⟨by rw [hr.out], by first | exact bE | exact bE.drew⟩
  · have hr : Hid (Cmd.cand s.data.toList = ⟨Cmd.vol (Job.pre s.data.toList), Job.zero, ((Oct.number (Job.post s.data.toList)).1 : Nat)⟩) := by show _ = _; unfold Cmd.cand; rw [hp, if_neg (by decide)]
    rw [hp] at HP
    unfold jv Job.zero at HP
    have HC : Hid (∀ W, Below w.heap.size w W → Rg.Bk w.heap.size czero 27 W → Calls Tryd.prog 34 #[.string s, .string ⟨#[32]⟩] W fun e w' => CutPost w s e w') := fun W hW kW =>
      (cut_any s W (hw.below hW).max hs).mono fun e w' ⟨h1, h2⟩ => ⟨h1, hW.trans (h2.mono hW.size), kW.below h2 kW.lt⟩
    have hpo : (⟨(Job.post s.data.toList).toArray⟩ : ByteArray).size ≤ maxLen := by
      show (Job.post s.data.toList).length ≤ maxLen
      have := Job.post_len s.data.toList
      rw [Oct.len_eq] at this
      unfold maxLen; omega
    have HN : Hid (∀ W, Calls Tryd.prog 35 #[.string ⟨(Job.post s.data.toList).toArray⟩] W fun e w' => e = .returned (.tuple #[.int .i64 ((Oct.number (Job.post s.data.toList)).1 : Nat), .int .i64 ((Oct.number (Job.post s.data.toList)).2 : Nat)]) ∧ w' = W) := fun W => number_any _ W hpo
    have HV : Hid (∀ W, Calls Tryd.prog 36 #[.string ⟨(Job.pre s.data.toList).toArray⟩] W fun e w' => e = .returned (.int .i64 (Cmd.vol (Job.pre s.data.toList))) ∧ w' = W) := fun W => verbOfLetter_any _ W
    unfold CutPost at HC
    generalize (⟨(Job.post s.data.toList).toArray⟩ : ByteArray) = B at *
    generalize (⟨(Job.pre s.data.toList).toArray⟩ : ByteArray) = A at *
    generalize Cmd.vol (Job.pre s.data.toList) = v at *
    generalize (((Oct.number (Job.post s.data.toList)).1 : Nat) : Int) = n at *
    generalize (((Oct.number (Job.post s.data.toList)).2 : Nat) : Int) = m at *
    clear hp hw hs hB0 hpo
    go_enter Tryd.func21, Tryd.ntmps21
    go_upto_region 4 with (go_at_call 32; refine HP.out.mono ?_; rintro e w1 ⟨rfl, b1, k1⟩)
    have kR : Rg.Bk w.heap.size czero 27 (w1.alloc (.cells #[.int .i64 0, .int .i64 0, .int .i64 0, .string ⟨#[]⟩, .string ⟨#[]⟩, .string ⟨#[]⟩, .string ⟨#[]⟩, .int .i64 0] 25)) := k1.old _
    have bR : Below w.heap.size w (w1.alloc (.cells #[.int .i64 0, .int .i64 0, .int .i64 0, .string ⟨#[]⟩, .string ⟨#[]⟩, .string ⟨#[]⟩, .string ⟨#[]⟩, .int .i64 0] 25)) := b1.alloc b1.size _
    generalize w1.heap.size = m1 at *
    generalize (w1.alloc (.cells #[.int .i64 0, .int .i64 0, .int .i64 0, .string ⟨#[]⟩, .string ⟨#[]⟩, .string ⟨#[]⟩, .string ⟨#[]⟩, .int .i64 0] 25)) = W1 at *
    go_wp2_with (first
      | (go_at_call 34; refine (HC.out _ bR kR).mono ?_; rintro e w2 ⟨⟨qq, rfl⟩, b2, k2⟩; have c1 := k2.cell; have f1 := k2.thaw; have z1 := k2.lt)
      | (go_at_call 35; refine (HN.out _).mono ?_; rintro e w' ⟨rfl, rfl⟩)
      | (go_at_call 36; refine (HV.out _).mono ?_; rintro e w' ⟨rfl, rfl⟩))
    have hk := ret10 k2 rfl b2 (Nat.le_refl _) (.int .i64 v) (.int .i64 0) (.int .i64 0) (.int .i64 0) (.string ⟨#[]⟩) (.string ⟨#[]⟩) (.string ⟨#[]⟩) (.string ⟨#[]⟩) (.int .i64 0) (.int .i64 n)
    clear c1 f1 z1 k2 b2 bR kR HP HV HN HC
    generalize World.setCell _ _ _ = WE at *
    obtain ⟨kE, bE⟩ := hk
    have cE := kE.cell
    exact bodyPost_ret (v := cv ⟨v, Job.zero, n⟩) (by simp [results, Tryd.results21, go_sem, cE, cv, cl, Job.zero]) rfl ⟨by rw [hr.out], by first | exact bE | exact bE.drew⟩
end Go.Proofs.YtgnjjbpfgokndaaDoor
