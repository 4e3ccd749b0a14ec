/-
  Walks of layer 10: the document's Parse.
-/
import Derived.Test.YtgnjjbpfgokndaaDoorCmdJ
namespace Go.Proofs.YtgnjjbpfgokndaaDoor
open Go.RowKit

theorem byte_eq2 {x : UInt8} {c : Nat} (h : x.toNat = c) : ((x.toNat : Int) == (c : Int)) = true := by rw [h]; simp
theorem byte_ne2 {x : UInt8} {b : UInt8} (h : x ≠ b) : ((x.toNat : Int) == (b.toNat : Int)) = false := by
  rw [beq_eq_false_iff_ne]; intro e; exact h (UInt8.toNat_inj.1 (by omega))
/-- what is kept: the answer's block and the word's -/
def Two (w : World) (C : List Value) (W : World) : Prop := Below w.heap.size w W ∧ Rg.Bk w.heap.size czero 27 W ∧ Rg.Bk (w.heap.size + 1) C 27 W
theorem Two.on {w W W' : World} {C : List Value} (h : Two w C W) (hb : Below W.heap.size W W') : Two w C W' :=
  ⟨h.1.trans (hb.mono h.1.size), h.2.1.below hb h.2.1.lt, h.2.2.below hb h.2.2.lt⟩
theorem two_new (w : World) (C : List Value) : Two w C ((w.alloc (.cells czero.toArray 27)).alloc (.cells C.toArray 27)) :=
  ⟨(below_alloc1 w _).alloc (below_alloc1 w _).size _, (Rg.Bk.new rfl).old _, Rg.Bk.new (by simp)⟩

theorem mid8 {b B : Nat} {w W : World} {u0 u1 u2 u3 u4 u5 u6 u7 u8 u9 : Value} {ty : TypeId} (h : Rg.Bk b [u0, u1, u2, u3, u4, u5, u6, u7, u8, u9] ty W) (hb : Below B w W) (hB : B ≤ b) (v1 v2 v3 v4 v5 v6 v7 v8 : Value) {c : Nat} {C : List Value} {ty2 : TypeId} (hc : c ≠ b) (h2 : Rg.Bk c C ty2 W) :
    Rg.Bk b [u0, v1, v2, v3, v4, v5, v6, v7, v8, u9] ty ((((((((W.setCell ⟨b, 1, none⟩ v1).setCell ⟨b, 2, none⟩ v2).setCell ⟨b, 3, none⟩ v3).setCell ⟨b, 4, none⟩ v4).setCell ⟨b, 5, none⟩ v5).setCell ⟨b, 6, none⟩ v6).setCell ⟨b, 7, none⟩ v7).setCell ⟨b, 8, none⟩ v8) ∧ Below B w ((((((((W.setCell ⟨b, 1, none⟩ v1).setCell ⟨b, 2, none⟩ v2).setCell ⟨b, 3, none⟩ v3).setCell ⟨b, 4, none⟩ v4).setCell ⟨b, 5, none⟩ v5).setCell ⟨b, 6, none⟩ v6).setCell ⟨b, 7, none⟩ v7).setCell ⟨b, 8, none⟩ v8) ∧ Rg.Bk c C ty2 ((((((((W.setCell ⟨b, 1, none⟩ v1).setCell ⟨b, 2, none⟩ v2).setCell ⟨b, 3, none⟩ v3).setCell ⟨b, 4, none⟩ v4).setCell ⟨b, 5, none⟩ v5).setCell ⟨b, 6, none⟩ v6).setCell ⟨b, 7, none⟩ v7).setCell ⟨b, 8, none⟩ v8) := by
  refine ⟨?_, ?_, ?_⟩
  · exact ((((((((h.set 1 v1).set 2 v2).set 3 v3).set 4 v4).set 5 v5).set 6 v6).set 7 v7).set 8 v8)
  · exact ((((((((hb.setCell (p := ⟨b, 1, none⟩) hB v1).setCell (p := ⟨b, 2, none⟩) hB v2).setCell (p := ⟨b, 3, none⟩) hB v3).setCell (p := ⟨b, 4, none⟩) hB v4).setCell (p := ⟨b, 5, none⟩) hB v5).setCell (p := ⟨b, 6, none⟩) hB v6).setCell (p := ⟨b, 7, none⟩) hB v7).setCell (p := ⟨b, 8, none⟩) hB v8)
  · exact ((((((((h2.other hc v1).other hc v2).other hc v3).other hc v4).other hc v5).other hc v6).other hc v7).other hc v8)

set_option maxHeartbeats 4000000 in
set_option maxRecDepth 100000 in
theorem rcparse_any (s : ByteArray) (w : World) (hw : Ok w) (hs : s.size ≤ 1000000) :
    Calls Tryd.prog 13 #[.string s] w fun e w' => e = .returned (.tuple #[cv (Cmd.parse s.data.toList).1, .int .i64 (Cmd.parse s.data.toList).2]) ∧ Below w.heap.size w w' := by
  have bw : Below w.heap.size w (w.alloc (.cells czero.toArray 27)) := below_alloc1 w _
  have hB0 : Rg.Bk w.heap.size czero 27 (w.alloc (.cells czero.toArray 27)) := Rg.Bk.new rfl
  by_cases h72 : s.data.toList = [72]
  · have hr : Hid (Cmd.parse s.data.toList = (⟨3, Job.zero, 0⟩, 0)) := by show _ = _; rw [h72]; exact Cmd.parse_yes (Cmd.says_is .hang)
    have e72 := sbeq1 h72
    clear h72
    go_enter Tryd.func13, Tryd.ntmps13
    go_wp2
    exact bodyPost_ret (v := .tuple #[cv ⟨3, Job.zero, 0⟩, .int .i64 0]) (by simp [results, Tryd.results13, go_sem, cv, cl, Job.zero]) rfl ⟨by rw [hr.out], below_alloc1 _ _⟩
  have e72 := sbeq h72
  by_cases h67 : s.data.toList = [67]
  · have hr : Hid (Cmd.parse s.data.toList = (⟨6, Job.zero, 0⟩, 0)) := by show _ = _; rw [h67]; exact Cmd.parse_yes (Cmd.says_is .done)
    have e67 := sbeq1 h67
    clear h72 h67
    go_enter Tryd.func13, Tryd.ntmps13
    go_wp2
    exact bodyPost_ret (v := .tuple #[cv ⟨6, Job.zero, 0⟩, .int .i64 0]) (by simp [results, Tryd.results13, go_sem, cv, cl, Job.zero]) rfl ⟨by rw [hr.out], below_alloc1 _ _⟩
  have e67 := sbeq h67
  by_cases h3 : s.size < 3
  · have hr : Hid (Cmd.parse s.data.toList = (Cmd.zero, 3)) := Cmd.bad_form h72 h67 (.inl h3)
    have d3 : decide ((s.size : Int) < 3) = true := by simp; omega
    clear h72 h67
    go_enter Tryd.func13, Tryd.ntmps13
    go_wp2
    exact bodyPost_ret (v := .tuple #[cv Cmd.zero, .int .i64 3]) (by simp [results, Tryd.results13, go_sem, cv, cl, Cmd.zero, Job.zero]) rfl ⟨by rw [hr.out], by first | exact below_alloc1 _ _ | exact (below_alloc1 _ _).alloc (below_alloc1 _ _).size _⟩
  have d3 : decide ((s.size : Int) < 3) = false := by simp; omega
  have hl1 : 1 < s.size := by omega
  have hl0 : 0 < s.size := by omega
  have hl2 : 2 < s.size := by omega
  have i0 : (0 : Int) < (s.size : Int) := by omega
  have i1 : (1 : Int) < (s.size : Int) := by omega
  have i2 : (2 : Int) ≤ (s.size : Int) := by omega
  by_cases h1 : ¬ s[1] = 32
  · have hr : Hid (Cmd.parse s.data.toList = (Cmd.zero, 3)) := Cmd.bad_form h72 h67 (.inr ⟨hl1, h1⟩)
    have d1 : ((s[1].toNat : Int) == 32) = false := byte_ne2 (b := 32) h1
    have d1' : ((s[1].toNat : Int) != 32) = true := by rw [bne, d1]; rfl
    have n1 : ¬ (s[1].toNat : Int) = 32 := by simpa using d1
    clear h72 h67 h1
    go_enter Tryd.func13, Tryd.ntmps13
    go_wp2
    exact bodyPost_ret (v := .tuple #[cv Cmd.zero, .int .i64 3]) (by simp [results, Tryd.results13, go_sem, cv, cl, Cmd.zero, Job.zero]) rfl ⟨by rw [hr.out], by first | exact below_alloc1 _ _ | exact (below_alloc1 _ _).alloc (below_alloc1 _ _).size _⟩
  replace h1 : s[1] = 32 := Classical.not_not.1 h1
  have d1 : ((s[1].toNat : Int) == 32) = true := byte_eq2 (c := 32) (by rw [h1]; rfl)
  have d1' : ((s[1].toNat : Int) != 32) = false := by rw [bne, d1]; rfl
  have n1 : (s[1].toNat : Int) = 32 := by simpa using d1
  have HQ : Hid (∀ C W, Two w C W → Calls Tryd.prog 22 #[.string s] W fun e w' => e = .returned (.tuple #[jv (Job.parse s.data.toList).1, .int .i64 (Job.parse s.data.toList).2]) ∧ Two w C w') := fun C W hW => (rparse_any s W (hw.below hW.1) hs).mono fun e w' ⟨h1, h2⟩ => ⟨h1, hW.on h2⟩
  by_cases q83 : s[0] = 83
  · have d0 : ((s[0].toNat : Int) == 83) = true := byte_eq2 (c := 83) (by rw [q83]; rfl)
    have HQ := HQ.out [.int .i64 1, .int .i64 0, .int .i64 0, .int .i64 0, .string ⟨#[]⟩, .string ⟨#[]⟩, .string ⟨#[]⟩, .string ⟨#[]⟩, .int .i64 0, .int .i64 0] _ (two_new w [.int .i64 1, .int .i64 0, .int .i64 0, .int .i64 0, .string ⟨#[]⟩, .string ⟨#[]⟩, .string ⟨#[]⟩, .string ⟨#[]⟩, .int .i64 0, .int .i64 0])
    rcases Cmd.parse_send hl2 (.inl q83) with ⟨j, hp, hr⟩ | ⟨hp, hr⟩
    · rw [hp] at HQ
      obtain ⟨g, n, k, u, f, t, c, z⟩ := j
      unfold jv at HQ
      dsimp only at HQ
      replace hr := hideC hr
      replace HQ := hideC HQ
      clear hp h72 h67 h1 q83 hw hs
      go_enter Tryd.func13, Tryd.ntmps13
      go_upto_region 25 with (go_at_call 22; refine HQ.out.mono ?_; rintro e w1 ⟨rfl, t1⟩)
      have kC := t1.2.2.old (.cells #[.int .i64 g, .int .i64 n, .int .i64 k, .string u, .string f, .string t, .string c, .int .i64 z] 25)
      have kR := t1.2.1.old (.cells #[.int .i64 g, .int .i64 n, .int .i64 k, .string u, .string f, .string t, .string c, .int .i64 z] 25)
      have bR := t1.1.alloc t1.1.size (.cells #[.int .i64 g, .int .i64 n, .int .i64 k, .string u, .string f, .string t, .string c, .int .i64 z] 25)
      have kJ : Rg.Bk w1.heap.size [.int .i64 g, .int .i64 n, .int .i64 k, .string u, .string f, .string t, .string c, .int .i64 z] 25 (w1.alloc (.cells #[.int .i64 g, .int .i64 n, .int .i64 k, .string u, .string f, .string t, .string c, .int .i64 z] 25)) := Rg.Bk.new rfl
      have hne : w1.heap.size ≠ w.heap.size + 1 := by have := t1.2.2.lt; omega
      have hne2 : w1.heap.size ≠ w.heap.size := by have := t1.2.1.lt; omega
      have hne' : ¬ (w.heap.size + 1 = w1.heap.size) := by omega
      have hne3 : ¬ (w.heap.size = w1.heap.size) := by omega
      generalize w1.heap.size = m at *
      generalize (w1.alloc (.cells #[.int .i64 g, .int .i64 n, .int .i64 k, .string u, .string f, .string t, .string c, .int .i64 z] 25)) = W1 at *
      have c1 := kC.cell; have f1 := kC.thaw; have z1 := kC.lt; have c2 := kJ.cell; have z2 := kJ.lt
      have hM := mid8 kC bR (Nat.le_succ _) (.int .i64 g) (.int .i64 n) (.int .i64 k) (.string u) (.string f) (.string t) (.string c) (.int .i64 z) (by omega) kR
      go_upto_region 26 with fail
      clear c1 f1 z1 c2 z2 kJ kC kR bR t1 HQ
      generalize World.setCell _ _ _ = W2 at *
      obtain ⟨kC, bR, kR⟩ := hM
      have c1 := kC.cell; have z1 := kC.lt; have c2 := kR.cell; have f2 := kR.thaw; have z2 := kR.lt
      go_wp2
      have hk := ret10 kR rfl bR (Nat.le_refl _) (.int .i64 1) (.int .i64 g) (.int .i64 n) (.int .i64 k) (.string u) (.string f) (.string t) (.string c) (.int .i64 z) (.int .i64 0)
      clear c1 z1 c2 f2 z2 kC kR bR
      generalize World.setCell _ _ _ = WE at *
      obtain ⟨kE, bE⟩ := hk
      have cE := kE.cell
      exact bodyPost_ret (v := .tuple #[cv ⟨1, ⟨g, n, k, u, f, t, c, z⟩, 0⟩, .int .i64 0]) (by simp [results, Tryd.results13, go_sem, cE, cv, cl]) rfl ⟨by rw [hr.out], by first | exact bE | exact bE.drew⟩
    · rw [hp] at HQ
      unfold jv Job.zero at HQ
      dsimp only at HQ
      replace hr := hideC hr
      replace HQ := hideC HQ
      clear hp h72 h67 h1 q83 hw hs
      go_enter Tryd.func13, Tryd.ntmps13
      go_upto_region 24 with (go_at_call 22; refine HQ.out.mono ?_; rintro e w1 ⟨rfl, t1⟩)
      have kR := t1.2.1.old (.cells #[.int .i64 0, .int .i64 0, .int .i64 0, .string ⟨#[]⟩, .string ⟨#[]⟩, .string ⟨#[]⟩, .string ⟨#[]⟩, .int .i64 0] 25)
      have bR := t1.1.alloc t1.1.size (.cells #[.int .i64 0, .int .i64 0, .int .i64 0, .string ⟨#[]⟩, .string ⟨#[]⟩, .string ⟨#[]⟩, .string ⟨#[]⟩, .int .i64 0] 25)
      generalize w1.heap.size = m at *
      generalize (w1.alloc (.cells #[.int .i64 0, .int .i64 0, .int .i64 0, .string ⟨#[]⟩, .string ⟨#[]⟩, .string ⟨#[]⟩, .string ⟨#[]⟩, .int .i64 0] 25)) = W1 at *
      have c2 := kR.cell; have f2 := kR.thaw; have z2 := kR.lt
      go_wp2
      have hk := ret10 kR rfl bR (Nat.le_refl _) (.int .i64 0) (.int .i64 0) (.int .i64 0) (.int .i64 0) (.string ⟨#[]⟩) (.string ⟨#[]⟩) (.string ⟨#[]⟩) (.string ⟨#[]⟩) (.int .i64 0) (.int .i64 0)
      clear c2 f2 z2 kR bR
      generalize World.setCell _ _ _ = WE at *
      obtain ⟨kE, bE⟩ := hk
      have cE := kE.cell
      exact bodyPost_ret (v := .tuple #[cv Cmd.zero, .int .i64 3]) (by simp [results, Tryd.results13, go_sem, cE, cv, cl, Cmd.zero, Job.zero]) rfl ⟨by rw [hr.out], by first | exact bE | exact bE.drew⟩
  have e83 : ((s[0].toNat : Int) == 83) = false := byte_ne2 (b := 83) q83
  by_cases q69 : s[0] = 69
  · have d0 : ((s[0].toNat : Int) == 69) = true := byte_eq2 (c := 69) (by rw [q69]; rfl)
    have HQ := HQ.out [.int .i64 1, .int .i64 0, .int .i64 0, .int .i64 0, .string ⟨#[]⟩, .string ⟨#[]⟩, .string ⟨#[]⟩, .string ⟨#[]⟩, .int .i64 0, .int .i64 0] _ (two_new w [.int .i64 1, .int .i64 0, .int .i64 0, .int .i64 0, .string ⟨#[]⟩, .string ⟨#[]⟩, .string ⟨#[]⟩, .string ⟨#[]⟩, .int .i64 0, .int .i64 0])
    rcases Cmd.parse_send hl2 (.inr q69) with ⟨j, hp, hr⟩ | ⟨hp, hr⟩
    · rw [hp] at HQ
      obtain ⟨g, n, k, u, f, t, c, z⟩ := j
      unfold jv at HQ
      dsimp only at HQ
      replace hr := hideC hr
      replace HQ := hideC HQ
      clear hp h72 h67 h1 q83 q69 hw hs
      go_enter Tryd.func13, Tryd.ntmps13
      go_upto_region 25 with (go_at_call 22; refine HQ.out.mono ?_; rintro e w1 ⟨rfl, t1⟩)
      have kC := t1.2.2.old (.cells #[.int .i64 g, .int .i64 n, .int .i64 k, .string u, .string f, .string t, .string c, .int .i64 z] 25)
      have kR := t1.2.1.old (.cells #[.int .i64 g, .int .i64 n, .int .i64 k, .string u, .string f, .string t, .string c, .int .i64 z] 25)
      have bR := t1.1.alloc t1.1.size (.cells #[.int .i64 g, .int .i64 n, .int .i64 k, .string u, .string f, .string t, .string c, .int .i64 z] 25)
      have kJ : Rg.Bk w1.heap.size [.int .i64 g, .int .i64 n, .int .i64 k, .string u, .string f, .string t, .string c, .int .i64 z] 25 (w1.alloc (.cells #[.int .i64 g, .int .i64 n, .int .i64 k, .string u, .string f, .string t, .string c, .int .i64 z] 25)) := Rg.Bk.new rfl
      have hne : w1.heap.size ≠ w.heap.size + 1 := by have := t1.2.2.lt; omega
      have hne2 : w1.heap.size ≠ w.heap.size := by have := t1.2.1.lt; omega
      have hne' : ¬ (w.heap.size + 1 = w1.heap.size) := by omega
      have hne3 : ¬ (w.heap.size = w1.heap.size) := by omega
      generalize w1.heap.size = m at *
      generalize (w1.alloc (.cells #[.int .i64 g, .int .i64 n, .int .i64 k, .string u, .string f, .string t, .string c, .int .i64 z] 25)) = W1 at *
      have c1 := kC.cell; have f1 := kC.thaw; have z1 := kC.lt; have c2 := kJ.cell; have z2 := kJ.lt
      have hM := mid8 kC bR (Nat.le_succ _) (.int .i64 g) (.int .i64 n) (.int .i64 k) (.string u) (.string f) (.string t) (.string c) (.int .i64 z) (by omega) kR
      go_upto_region 26 with fail
      clear c1 f1 z1 c2 z2 kJ kC kR bR t1 HQ
      generalize World.setCell _ _ _ = W2 at *
      obtain ⟨kC, bR, kR⟩ := hM
      have c1 := kC.cell; have z1 := kC.lt; have c2 := kR.cell; have f2 := kR.thaw; have z2 := kR.lt
      go_wp2
      have hk := ret10 kR rfl bR (Nat.le_refl _) (.int .i64 1) (.int .i64 g) (.int .i64 n) (.int .i64 k) (.string u) (.string f) (.string t) (.string c) (.int .i64 z) (.int .i64 0)
      clear c1 z1 c2 f2 z2 kC kR bR
      generalize World.setCell _ _ _ = WE at *
      obtain ⟨kE, bE⟩ := hk
      have cE := kE.cell
      exact bodyPost_ret (v := .tuple #[cv ⟨1, ⟨g, n, k, u, f, t, c, z⟩, 0⟩, .int .i64 0]) (by simp [results, Tryd.results13, go_sem, cE, cv, cl]) rfl ⟨by rw [hr.out], by first | exact bE | exact bE.drew⟩
    · rw [hp] at HQ
      unfold jv Job.zero at HQ
      dsimp only at HQ
      replace hr := hideC hr
      replace HQ := hideC HQ
      clear hp h72 h67 h1 q83 q69 hw hs
      go_enter Tryd.func13, Tryd.ntmps13
      go_upto_region 24 with (go_at_call 22; refine HQ.out.mono ?_; rintro e w1 ⟨rfl, t1⟩)
      have kR := t1.2.1.old (.cells #[.int .i64 0, .int .i64 0, .int .i64 0, .string ⟨#[]⟩, .string ⟨#[]⟩, .string ⟨#[]⟩, .string ⟨#[]⟩, .int .i64 0] 25)
      have bR := t1.1.alloc t1.1.size (.cells #[.int .i64 0, .int .i64 0, .int .i64 0, .string ⟨#[]⟩, .string ⟨#[]⟩, .string ⟨#[]⟩, .string ⟨#[]⟩, .int .i64 0] 25)
      generalize w1.heap.size = m at *
      generalize (w1.alloc (.cells #[.int .i64 0, .int .i64 0, .int .i64 0, .string ⟨#[]⟩, .string ⟨#[]⟩, .string ⟨#[]⟩, .string ⟨#[]⟩, .int .i64 0] 25)) = W1 at *
      have c2 := kR.cell; have f2 := kR.thaw; have z2 := kR.lt
      go_wp2
      have hk := ret10 kR rfl bR (Nat.le_refl _) (.int .i64 0) (.int .i64 0) (.int .i64 0) (.int .i64 0) (.string ⟨#[]⟩) (.string ⟨#[]⟩) (.string ⟨#[]⟩) (.string ⟨#[]⟩) (.int .i64 0) (.int .i64 0)
      clear c2 f2 z2 kR bR
      generalize World.setCell _ _ _ = WE at *
      obtain ⟨kE, bE⟩ := hk
      have cE := kE.cell
      exact bodyPost_ret (v := .tuple #[cv Cmd.zero, .int .i64 3]) (by simp [results, Tryd.results13, go_sem, cE, cv, cl, Cmd.zero, Job.zero]) rfl ⟨by rw [hr.out], by first | exact bE | exact bE.drew⟩
  have e69 : ((s[0].toNat : Int) == 69) = false := byte_ne2 (b := 69) q69
  by_cases q82 : s[0] = 82
  · have d0 : ((s[0].toNat : Int) == 82) = true := byte_eq2 (c := 82) (by rw [q82]; rfl)
    have HQ := HQ.out [.int .i64 2, .int .i64 0, .int .i64 0, .int .i64 0, .string ⟨#[]⟩, .string ⟨#[]⟩, .string ⟨#[]⟩, .string ⟨#[]⟩, .int .i64 0, .int .i64 0] _ (two_new w [.int .i64 2, .int .i64 0, .int .i64 0, .int .i64 0, .string ⟨#[]⟩, .string ⟨#[]⟩, .string ⟨#[]⟩, .string ⟨#[]⟩, .int .i64 0, .int .i64 0])
    rcases Cmd.parse_fetch hl2 q82 with ⟨j, hp, hr⟩ | ⟨hp, hr⟩
    · rw [hp] at HQ
      obtain ⟨g, n, k, u, f, t, c, z⟩ := j
      unfold jv at HQ
      dsimp only at HQ
      replace hr := hideC hr
      replace HQ := hideC HQ
      clear hp h72 h67 h1 q83 q69 q82 hw hs
      go_enter Tryd.func13, Tryd.ntmps13
      go_upto_region 25 with (go_at_call 22; refine HQ.out.mono ?_; rintro e w1 ⟨rfl, t1⟩)
      have kC := t1.2.2.old (.cells #[.int .i64 g, .int .i64 n, .int .i64 k, .string u, .string f, .string t, .string c, .int .i64 z] 25)
      have kR := t1.2.1.old (.cells #[.int .i64 g, .int .i64 n, .int .i64 k, .string u, .string f, .string t, .string c, .int .i64 z] 25)
      have bR := t1.1.alloc t1.1.size (.cells #[.int .i64 g, .int .i64 n, .int .i64 k, .string u, .string f, .string t, .string c, .int .i64 z] 25)
      have kJ : Rg.Bk w1.heap.size [.int .i64 g, .int .i64 n, .int .i64 k, .string u, .string f, .string t, .string c, .int .i64 z] 25 (w1.alloc (.cells #[.int .i64 g, .int .i64 n, .int .i64 k, .string u, .string f, .string t, .string c, .int .i64 z] 25)) := Rg.Bk.new rfl
      have hne : w1.heap.size ≠ w.heap.size + 1 := by have := t1.2.2.lt; omega
      have hne2 : w1.heap.size ≠ w.heap.size := by have := t1.2.1.lt; omega
      have hne' : ¬ (w.heap.size + 1 = w1.heap.size) := by omega
      have hne3 : ¬ (w.heap.size = w1.heap.size) := by omega
      generalize w1.heap.size = m at *
      generalize (w1.alloc (.cells #[.int .i64 g, .int .i64 n, .int .i64 k, .string u, .string f, .string t, .string c, .int .i64 z] 25)) = W1 at *
      have c1 := kC.cell; have f1 := kC.thaw; have z1 := kC.lt; have c2 := kJ.cell; have z2 := kJ.lt
      have hM := mid8 kC bR (Nat.le_succ _) (.int .i64 g) (.int .i64 n) (.int .i64 k) (.string u) (.string f) (.string t) (.string c) (.int .i64 z) (by omega) kR
      go_upto_region 26 with fail
      clear c1 f1 z1 c2 z2 kJ kC kR bR t1 HQ
      generalize World.setCell _ _ _ = W2 at *
      obtain ⟨kC, bR, kR⟩ := hM
      have c1 := kC.cell; have z1 := kC.lt; have c2 := kR.cell; have f2 := kR.thaw; have z2 := kR.lt
      go_wp2
      have hk := ret10 kR rfl bR (Nat.le_refl _) (.int .i64 2) (.int .i64 g) (.int .i64 n) (.int .i64 k) (.string u) (.string f) (.string t) (.string c) (.int .i64 z) (.int .i64 0)
      clear c1 z1 c2 f2 z2 kC kR bR
      generalize World.setCell _ _ _ = WE at *
      obtain ⟨kE, bE⟩ := hk
      have cE := kE.cell
      exact bodyPost_ret (v := .tuple #[cv ⟨2, ⟨g, n, k, u, f, t, c, z⟩, 0⟩, .int .i64 0]) (by simp [results, Tryd.results13, go_sem, cE, cv, cl]) rfl ⟨by rw [hr.out], by first | exact bE | exact bE.drew⟩
    · rw [hp] at HQ
      unfold jv Job.zero at HQ
      dsimp only at HQ
      replace hr := hideC hr
      replace HQ := hideC HQ
      clear hp h72 h67 h1 q83 q69 q82 hw hs
      go_enter Tryd.func13, Tryd.ntmps13
      go_upto_region 24 with (go_at_call 22; refine HQ.out.mono ?_; rintro e w1 ⟨rfl, t1⟩)
      have kR := t1.2.1.old (.cells #[.int .i64 0, .int .i64 0, .int .i64 0, .string ⟨#[]⟩, .string ⟨#[]⟩, .string ⟨#[]⟩, .string ⟨#[]⟩, .int .i64 0] 25)
      have bR := t1.1.alloc t1.1.size (.cells #[.int .i64 0, .int .i64 0, .int .i64 0, .string ⟨#[]⟩, .string ⟨#[]⟩, .string ⟨#[]⟩, .string ⟨#[]⟩, .int .i64 0] 25)
      generalize w1.heap.size = m at *
      generalize (w1.alloc (.cells #[.int .i64 0, .int .i64 0, .int .i64 0, .string ⟨#[]⟩, .string ⟨#[]⟩, .string ⟨#[]⟩, .string ⟨#[]⟩, .int .i64 0] 25)) = W1 at *
      have c2 := kR.cell; have f2 := kR.thaw; have z2 := kR.lt
      go_wp2
      have hk := ret10 kR rfl bR (Nat.le_refl _) (.int .i64 0) (.int .i64 0) (.int .i64 0) (.int .i64 0) (.string ⟨#[]⟩) (.string ⟨#[]⟩) (.string ⟨#[]⟩) (.string ⟨#[]⟩) (.int .i64 0) (.int .i64 0)
      clear c2 f2 z2 kR bR
      generalize World.setCell _ _ _ = WE at *
      obtain ⟨kE, bE⟩ := hk
      have cE := kE.cell
      exact bodyPost_ret (v := .tuple #[cv Cmd.zero, .int .i64 3]) (by simp [results, Tryd.results13, go_sem, cE, cv, cl, Cmd.zero, Job.zero]) rfl ⟨by rw [hr.out], by first | exact bE | exact bE.drew⟩
  have e82 : ((s[0].toNat : Int) == 82) = false := byte_ne2 (b := 82) q82
  clear HQ
  have HN : Hid (∀ W, Calls Tryd.prog 23 #[.string (s.extract 2 s.size)] W fun e w' => e = .returned (.tuple #[.int .i64 ((Oct.number (s.data.toList.drop 2)).1 : Nat), .int .i64 ((Oct.number (s.data.toList.drop 2)).2 : Nat)]) ∧ w' = W) := fun W => by
    have h := refNumber_any ⟨(s.data.toList.drop 2).toArray⟩ W (by
      show (s.data.toList.drop 2).length ≤ maxLen
      rw [List.length_drop, Oct.len_eq]; unfold maxLen; omega)
    rw [extract_drop]
    exact h
  have HT : Hid (∀ (v nn : Int) C W, Two w C W → Calls Tryd.prog 11 #[.agg #[.int .i64 v, .int .i64 0, .int .i64 0, .int .i64 0, .string ⟨#[]⟩, .string ⟨#[]⟩, .string ⟨#[]⟩, .string ⟨#[]⟩, .int .i64 0, .int .i64 nn]] W fun e w' => e = .returned (.tuple #[.string ⟨(Cmd.text ⟨v, Job.zero, nn⟩).1.toArray⟩, .int .i64 ((Cmd.text ⟨v, Job.zero, nn⟩).2 : Nat)]) ∧ Two w C w') := fun v nn C W hW =>
    (rctext_any v 0 0 0 ⟨#[]⟩ ⟨#[]⟩ ⟨#[]⟩ ⟨#[]⟩ 0 nn W (hw.below hW.1) (by decide) (by decide) (by decide) (by decide)).mono fun e w' ⟨h1, h2⟩ => ⟨h1, hW.on h2⟩
  by_cases q89 : s[0] = 89
  · have d0 : ((s[0].toNat : Int) == 89) = true := byte_eq2 (c := 89) (by rw [q89]; rfl)
    rcases Cmd.parse_num (v := 4) hl2 (.inl ⟨q89, rfl⟩) with ⟨nn, hn, ht, hr⟩ | ⟨ht, hr⟩
    · rw [hn] at HN
      dsimp only at HN
      have HT := HT.out 4 (nn : Nat) [.int .i64 4, .int .i64 0, .int .i64 0, .int .i64 0, .string ⟨#[]⟩, .string ⟨#[]⟩, .string ⟨#[]⟩, .string ⟨#[]⟩, .int .i64 0, .int .i64 nn] _ (two_new w [.int .i64 4, .int .i64 0, .int .i64 0, .int .i64 0, .string ⟨#[]⟩, .string ⟨#[]⟩, .string ⟨#[]⟩, .string ⟨#[]⟩, .int .i64 0, .int .i64 nn])
      rw [ht] at HT
      dsimp only at HT
      rw [show (⟨s.data.toList.toArray⟩ : ByteArray) = s from rfl] at HT
      replace hr := hideC hr
      replace HT := hideC HT
      clear hn ht
      generalize ((nn : Nat) : Int) = nn at *
      clear h72 h67 h1 q83 q69 q82 q89 hw hs
      go_enter Tryd.func13, Tryd.ntmps13
      go_upto_region 30 with (first
        | (go_at_call 23; refine (HN.out _).mono ?_; rintro e w' ⟨rfl, rfl⟩)
        | (go_at_call 11; refine HT.out.mono ?_; rintro e w2 ⟨rfl, t2⟩))
      obtain ⟨bR, kR, kC⟩ := t2
      have c1 := kC.cell; have z1 := kC.lt; have c2 := kR.cell; have f2 := kR.thaw; have z2 := kR.lt
      go_wp2
      have hk := ret10 kR rfl bR (Nat.le_refl _) (.int .i64 4) (.int .i64 0) (.int .i64 0) (.int .i64 0) (.string ⟨#[]⟩) (.string ⟨#[]⟩) (.string ⟨#[]⟩) (.string ⟨#[]⟩) (.int .i64 0) (.int .i64 nn)
      clear c1 z1 c2 f2 z2 kC kR bR
      generalize World.setCell _ _ _ = WE at *
      obtain ⟨kE, bE⟩ := hk
      have cE := kE.cell
      exact bodyPost_ret (v := .tuple #[cv ⟨4, Job.zero, nn⟩, .int .i64 0]) (by simp [results, Tryd.results13, go_sem, cE, cv, cl, Job.zero]) rfl ⟨by rw [hr.out], by first | exact bE | exact bE.drew⟩
    · generalize (((Oct.number (s.data.toList.drop 2)).1 : Nat) : Int) = nn at *
      have HT := HT.out 4 nn [.int .i64 4, .int .i64 0, .int .i64 0, .int .i64 0, .string ⟨#[]⟩, .string ⟨#[]⟩, .string ⟨#[]⟩, .string ⟨#[]⟩, .int .i64 0, .int .i64 nn] _ (two_new w [.int .i64 4, .int .i64 0, .int .i64 0, .int .i64 0, .string ⟨#[]⟩, .string ⟨#[]⟩, .string ⟨#[]⟩, .string ⟨#[]⟩, .int .i64 0, .int .i64 nn])
      replace hr := hideC hr
      rcases Cmd.text_two ⟨4, Job.zero, nn⟩ with ⟨x, hx⟩ | ⟨q, hq, hx⟩
      · have hx' : Cmd.text ⟨4, Job.zero, nn⟩ = (x, 0) := hx
        have he : x ≠ s.data.toList := fun e => ht (by rw [hx', e])
        rw [hx'] at HT
        dsimp only at HT
        have hX : ((⟨x.toArray⟩ : ByteArray).toList == s.toList) = false := by rw [tl_eq, tl_eq]; exact beq_eq_false_iff_ne.2 he
        replace HT := hideC HT
        generalize (⟨x.toArray⟩ : ByteArray) = X at *
        clear hx hx' he ht
        by_cases hz : (Oct.number (s.data.toList.drop 2)).2 = 0
        · rw [hz] at HN
          clear hz
          clear h72 h67 h1 q83 q69 q82 q89 hw hs
          go_enter Tryd.func13, Tryd.ntmps13
          go_upto_region 30 with (first
            | (go_at_call 23; refine (HN.out _).mono ?_; rintro e w' ⟨rfl, rfl⟩)
            | (go_at_call 11; refine HT.out.mono ?_; rintro e w2 ⟨rfl, t2⟩))
          obtain ⟨bR, kR, kC⟩ := t2
          have c1 := kC.cell; have z1 := kC.lt; have c2 := kR.cell; have f2 := kR.thaw; have z2 := kR.lt
          go_wp2
          have hk := ret10 kR rfl bR (Nat.le_refl _) (.int .i64 0) (.int .i64 0) (.int .i64 0) (.int .i64 0) (.string ⟨#[]⟩) (.string ⟨#[]⟩) (.string ⟨#[]⟩) (.string ⟨#[]⟩) (.int .i64 0) (.int .i64 0)
          clear c1 z1 c2 f2 z2 kC kR bR
          generalize World.setCell _ _ _ = WE at *
          obtain ⟨kE, bE⟩ := hk
          have cE := kE.cell
          exact bodyPost_ret (v := .tuple #[cv Cmd.zero, .int .i64 3]) (by simp [results, Tryd.results13, go_sem, cE, cv, cl, Cmd.zero, Job.zero]) rfl ⟨by rw [hr.out], by first | exact bE | exact bE.drew⟩
        · obtain ⟨n2, n3, n4, n5⟩ := ne_facts hz
          generalize (Oct.number (s.data.toList.drop 2)).2 = y at *
          clear hz
          clear h72 h67 h1 q83 q69 q82 q89 hw hs
          go_enter Tryd.func13, Tryd.ntmps13
          go_upto_region 30 with (first
            | (go_at_call 23; refine (HN.out _).mono ?_; rintro e w' ⟨rfl, rfl⟩)
            | (go_at_call 11; refine HT.out.mono ?_; rintro e w2 ⟨rfl, t2⟩))
          obtain ⟨bR, kR, kC⟩ := t2
          have c1 := kC.cell; have z1 := kC.lt; have c2 := kR.cell; have f2 := kR.thaw; have z2 := kR.lt
          go_wp2
          have hk := ret10 kR rfl bR (Nat.le_refl _) (.int .i64 0) (.int .i64 0) (.int .i64 0) (.int .i64 0) (.string ⟨#[]⟩) (.string ⟨#[]⟩) (.string ⟨#[]⟩) (.string ⟨#[]⟩) (.int .i64 0) (.int .i64 0)
          clear c1 z1 c2 f2 z2 kC kR bR
          generalize World.setCell _ _ _ = WE at *
          obtain ⟨kE, bE⟩ := hk
          have cE := kE.cell
          exact bodyPost_ret (v := .tuple #[cv Cmd.zero, .int .i64 3]) (by simp [results, Tryd.results13, go_sem, cE, cv, cl, Cmd.zero, Job.zero]) rfl ⟨by rw [hr.out], by first | exact bE | exact bE.drew⟩
      · rw [hx] at HT
        dsimp only at HT
        obtain ⟨k2, k3, k4, k5⟩ := ne_facts hq
        replace HT := hideC HT
        clear hx hq ht
        by_cases hz : (Oct.number (s.data.toList.drop 2)).2 = 0
        · rw [hz] at HN
          clear hz
          clear h72 h67 h1 q83 q69 q82 q89 hw hs
          go_enter Tryd.func13, Tryd.ntmps13
          go_upto_region 30 with (first
            | (go_at_call 23; refine (HN.out _).mono ?_; rintro e w' ⟨rfl, rfl⟩)
            | (go_at_call 11; refine HT.out.mono ?_; rintro e w2 ⟨rfl, t2⟩))
          obtain ⟨bR, kR, kC⟩ := t2
          have c1 := kC.cell; have z1 := kC.lt; have c2 := kR.cell; have f2 := kR.thaw; have z2 := kR.lt
          go_wp2
          have hk := ret10 kR rfl bR (Nat.le_refl _) (.int .i64 0) (.int .i64 0) (.int .i64 0) (.int .i64 0) (.string ⟨#[]⟩) (.string ⟨#[]⟩) (.string ⟨#[]⟩) (.string ⟨#[]⟩) (.int .i64 0) (.int .i64 0)
          clear c1 z1 c2 f2 z2 kC kR bR
          generalize World.setCell _ _ _ = WE at *
          obtain ⟨kE, bE⟩ := hk
          have cE := kE.cell
          exact bodyPost_ret (v := .tuple #[cv Cmd.zero, .int .i64 3]) (by simp [results, Tryd.results13, go_sem, cE, cv, cl, Cmd.zero, Job.zero]) rfl ⟨by rw [hr.out], by first | exact bE | exact bE.drew⟩
        · obtain ⟨n2, n3, n4, n5⟩ := ne_facts hz
          generalize (Oct.number (s.data.toList.drop 2)).2 = y at *
          clear hz
          clear h72 h67 h1 q83 q69 q82 q89 hw hs
          go_enter Tryd.func13, Tryd.ntmps13
          go_upto_region 30 with (first
            | (go_at_call 23; refine (HN.out _).mono ?_; rintro e w' ⟨rfl, rfl⟩)
            | (go_at_call 11; refine HT.out.mono ?_; rintro e w2 ⟨rfl, t2⟩))
          obtain ⟨bR, kR, kC⟩ := t2
          have c1 := kC.cell; have z1 := kC.lt; have c2 := kR.cell; have f2 := kR.thaw; have z2 := kR.lt
          go_wp2
          have hk := ret10 kR rfl bR (Nat.le_refl _) (.int .i64 0) (.int .i64 0) (.int .i64 0) (.int .i64 0) (.string ⟨#[]⟩) (.string ⟨#[]⟩) (.string ⟨#[]⟩) (.string ⟨#[]⟩) (.int .i64 0) (.int .i64 0)
          clear c1 z1 c2 f2 z2 kC kR bR
          generalize World.setCell _ _ _ = WE at *
          obtain ⟨kE, bE⟩ := hk
          have cE := kE.cell
          exact bodyPost_ret (v := .tuple #[cv Cmd.zero, .int .i64 3]) (by simp [results, Tryd.results13, go_sem, cE, cv, cl, Cmd.zero, Job.zero]) rfl ⟨by rw [hr.out], by first | exact bE | exact bE.drew⟩
  have e89 : ((s[0].toNat : Int) == 89) = false := byte_ne2 (b := 89) q89
  by_cases q78 : s[0] = 78
  · have d0 : ((s[0].toNat : Int) == 78) = true := byte_eq2 (c := 78) (by rw [q78]; rfl)
    rcases Cmd.parse_num (v := 5) hl2 (.inr (.inl ⟨q78, rfl⟩)) with ⟨nn, hn, ht, hr⟩ | ⟨ht, hr⟩
    · rw [hn] at HN
      dsimp only at HN
      have HT := HT.out 5 (nn : Nat) [.int .i64 5, .int .i64 0, .int .i64 0, .int .i64 0, .string ⟨#[]⟩, .string ⟨#[]⟩, .string ⟨#[]⟩, .string ⟨#[]⟩, .int .i64 0, .int .i64 nn] _ (two_new w [.int .i64 5, .int .i64 0, .int .i64 0, .int .i64 0, .string ⟨#[]⟩, .string ⟨#[]⟩, .string ⟨#[]⟩, .string ⟨#[]⟩, .int .i64 0, .int .i64 nn])
      rw [ht] at HT
      dsimp only at HT
      rw [show (⟨s.data.toList.toArray⟩ : ByteArray) = s from rfl] at HT
      replace hr := hideC hr
      replace HT := hideC HT
      clear hn ht
      generalize ((nn : Nat) : Int) = nn at *
      clear h72 h67 h1 q83 q69 q82 q89 q78 hw hs
      go_enter Tryd.func13, Tryd.ntmps13
      go_upto_region 30 with (first
        | (go_at_call 23; refine (HN.out _).mono ?_; rintro e w' ⟨rfl, rfl⟩)
        | (go_at_call 11; refine HT.out.mono ?_; rintro e w2 ⟨rfl, t2⟩))
      obtain ⟨bR, kR, kC⟩ := t2
      have c1 := kC.cell; have z1 := kC.lt; have c2 := kR.cell; have f2 := kR.thaw; have z2 := kR.lt
      go_wp2
      have hk := ret10 kR rfl bR (Nat.le_refl _) (.int .i64 5) (.int .i64 0) (.int .i64 0) (.int .i64 0) (.string ⟨#[]⟩) (.string ⟨#[]⟩) (.string ⟨#[]⟩) (.string ⟨#[]⟩) (.int .i64 0) (.int .i64 nn)
      clear c1 z1 c2 f2 z2 kC kR bR
      generalize World.setCell _ _ _ = WE at *
      obtain ⟨kE, bE⟩ := hk
      have cE := kE.cell
      exact bodyPost_ret (v := .tuple #[cv ⟨5, Job.zero, nn⟩, .int .i64 0]) (by simp [results, Tryd.results13, go_sem, cE, cv, cl, Job.zero]) rfl ⟨by rw [hr.out], by first | exact bE | exact bE.drew⟩
    · generalize (((Oct.number (s.data.toList.drop 2)).1 : Nat) : Int) = nn at *
      have HT := HT.out 5 nn [.int .i64 5, .int .i64 0, .int .i64 0, .int .i64 0, .string ⟨#[]⟩, .string ⟨#[]⟩, .string ⟨#[]⟩, .string ⟨#[]⟩, .int .i64 0, .int .i64 nn] _ (two_new w [.int .i64 5, .int .i64 0, .int .i64 0, .int .i64 0, .string ⟨#[]⟩, .string ⟨#[]⟩, .string ⟨#[]⟩, .string ⟨#[]⟩, .int .i64 0, .int .i64 nn])
      replace hr := hideC hr
      rcases Cmd.text_two ⟨5, Job.zero, nn⟩ with ⟨x, hx⟩ | ⟨q, hq, hx⟩
      · have hx' : Cmd.text ⟨5, Job.zero, nn⟩ = (x, 0) := hx
        have he : x ≠ s.data.toList := fun e => ht (by rw [hx', e])
        rw [hx'] at HT
        dsimp only at HT
        have hX : ((⟨x.toArray⟩ : ByteArray).toList == s.toList) = false := by rw [tl_eq, tl_eq]; exact beq_eq_false_iff_ne.2 he
        replace HT := hideC HT
        generalize (⟨x.toArray⟩ : ByteArray) = X at *
        clear hx hx' he ht
        by_cases hz : (Oct.number (s.data.toList.drop 2)).2 = 0
        · rw [hz] at HN
          clear hz
          clear h72 h67 h1 q83 q69 q82 q89 q78 hw hs
          go_enter Tryd.func13, Tryd.ntmps13
          go_upto_region 30 with (first
            | (go_at_call 23; refine (HN.out _).mono ?_; rintro e w' ⟨rfl, rfl⟩)
            | (go_at_call 11; refine HT.out.mono ?_; rintro e w2 ⟨rfl, t2⟩))
          obtain ⟨bR, kR, kC⟩ := t2
          have c1 := kC.cell; have z1 := kC.lt; have c2 := kR.cell; have f2 := kR.thaw; have z2 := kR.lt
          go_wp2
          have hk := ret10 kR rfl bR (Nat.le_refl _) (.int .i64 0) (.int .i64 0) (.int .i64 0) (.int .i64 0) (.string ⟨#[]⟩) (.string ⟨#[]⟩) (.string ⟨#[]⟩) (.string ⟨#[]⟩) (.int .i64 0) (.int .i64 0)
          clear c1 z1 c2 f2 z2 kC kR bR
          generalize World.setCell _ _ _ = WE at *
          obtain ⟨kE, bE⟩ := hk
          have cE := kE.cell
          exact bodyPost_ret (v := .tuple #[cv Cmd.zero, .int .i64 3]) (by simp [results, Tryd.results13, go_sem, cE, cv, cl, Cmd.zero, Job.zero]) rfl ⟨by rw [hr.out], by first | exact bE | exact bE.drew⟩
        · obtain ⟨n2, n3, n4, n5⟩ := ne_facts hz
          generalize (Oct.number (s.data.toList.drop 2)).2 = y at *
          clear hz
          clear h72 h67 h1 q83 q69 q82 q89 q78 hw hs
          go_enter Tryd.func13, Tryd.ntmps13
          go_upto_region 30 with (first
            | (go_at_call 23; refine (HN.out _).mono ?_; rintro e w' ⟨rfl, rfl⟩)
            | (go_at_call 11; refine HT.out.mono ?_; rintro e w2 ⟨rfl, t2⟩))
          obtain ⟨bR, kR, kC⟩ := t2
          have c1 := kC.cell; have z1 := kC.lt; have c2 := kR.cell; have f2 := kR.thaw; have z2 := kR.lt
          go_wp2
          have hk := ret10 kR rfl bR (Nat.le_refl _) (.int .i64 0) (.int .i64 0) (.int .i64 0) (.int .i64 0) (.string ⟨#[]⟩) (.string ⟨#[]⟩) (.string ⟨#[]⟩) (.string ⟨#[]⟩) (.int .i64 0) (.int .i64 0)
          clear c1 z1 c2 f2 z2 kC kR bR
          generalize World.setCell _ _ _ = WE at *
          obtain ⟨kE, bE⟩ := hk
          have cE := kE.cell
          exact bodyPost_ret (v := .tuple #[cv Cmd.zero, .int .i64 3]) (by simp [results, Tryd.results13, go_sem, cE, cv, cl, Cmd.zero, Job.zero]) rfl ⟨by rw [hr.out], by first | exact bE | exact bE.drew⟩
      · rw [hx] at HT
        dsimp only at HT
        obtain ⟨k2, k3, k4, k5⟩ := ne_facts hq
        replace HT := hideC HT
        clear hx hq ht
        by_cases hz : (Oct.number (s.data.toList.drop 2)).2 = 0
        · rw [hz] at HN
          clear hz
          clear h72 h67 h1 q83 q69 q82 q89 q78 hw hs
          go_enter Tryd.func13, Tryd.ntmps13
          go_upto_region 30 with (first
            | (go_at_call 23; refine (HN.out _).mono ?_; rintro e w' ⟨rfl, rfl⟩)
            | (go_at_call 11; refine HT.out.mono ?_; rintro e w2 ⟨rfl, t2⟩))
          obtain ⟨bR, kR, kC⟩ := t2
          have c1 := kC.cell; have z1 := kC.lt; have c2 := kR.cell; have f2 := kR.thaw; have z2 := kR.lt
          go_wp2
          have hk := ret10 kR rfl bR (Nat.le_refl _) (.int .i64 0) (.int .i64 0) (.int .i64 0) (.int .i64 0) (.string ⟨#[]⟩) (.string ⟨#[]⟩) (.string ⟨#[]⟩) (.string ⟨#[]⟩) (.int .i64 0) (.int .i64 0)
          clear c1 z1 c2 f2 z2 kC kR bR
          generalize World.setCell _ _ _ = WE at *
          obtain ⟨kE, bE⟩ := hk
          have cE := kE.cell
          exact bodyPost_ret (v := .tuple #[cv Cmd.zero, .int .i64 3]) (by simp [results, Tryd.results13, go_sem, cE, cv, cl, Cmd.zero, Job.zero]) rfl ⟨by rw [hr.out], by first | exact bE | exact bE.drew⟩
        · obtain ⟨n2, n3, n4, n5⟩ := ne_facts hz
          generalize (Oct.number (s.data.toList.drop 2)).2 = y at *
          clear hz
          clear h72 h67 h1 q83 q69 q82 q89 q78 hw hs
          go_enter Tryd.func13, Tryd.ntmps13
          go_upto_region 30 with (first
            | (go_at_call 23; refine (HN.out _).mono ?_; rintro e w' ⟨rfl, rfl⟩)
            | (go_at_call 11; refine HT.out.mono ?_; rintro e w2 ⟨rfl, t2⟩))
          obtain ⟨bR, kR, kC⟩ := t2
          have c1 := kC.cell; have z1 := kC.lt; have c2 := kR.cell; have f2 := kR.thaw; have z2 := kR.lt
          go_wp2
          have hk := ret10 kR rfl bR (Nat.le_refl _) (.int .i64 0) (.int .i64 0) (.int .i64 0) (.int .i64 0) (.string ⟨#[]⟩) (.string ⟨#[]⟩) (.string ⟨#[]⟩) (.string ⟨#[]⟩) (.int .i64 0) (.int .i64 0)
          clear c1 z1 c2 f2 z2 kC kR bR
          generalize World.setCell _ _ _ = WE at *
          obtain ⟨kE, bE⟩ := hk
          have cE := kE.cell
          exact bodyPost_ret (v := .tuple #[cv Cmd.zero, .int .i64 3]) (by simp [results, Tryd.results13, go_sem, cE, cv, cl, Cmd.zero, Job.zero]) rfl ⟨by rw [hr.out], by first | exact bE | exact bE.drew⟩
  have e78 : ((s[0].toNat : Int) == 78) = false := byte_ne2 (b := 78) q78
  by_cases q70 : s[0] = 70
  · have d0 : ((s[0].toNat : Int) == 70) = true := byte_eq2 (c := 70) (by rw [q70]; rfl)
    rcases Cmd.parse_num (v := 7) hl2 (.inr (.inr ⟨q70, rfl⟩)) with ⟨nn, hn, ht, hr⟩ | ⟨ht, hr⟩
    · rw [hn] at HN
      dsimp only at HN
      have HT := HT.out 7 (nn : Nat) [.int .i64 7, .int .i64 0, .int .i64 0, .int .i64 0, .string ⟨#[]⟩, .string ⟨#[]⟩, .string ⟨#[]⟩, .string ⟨#[]⟩, .int .i64 0, .int .i64 nn] _ (two_new w [.int .i64 7, .int .i64 0, .int .i64 0, .int .i64 0, .string ⟨#[]⟩, .string ⟨#[]⟩, .string ⟨#[]⟩, .string ⟨#[]⟩, .int .i64 0, .int .i64 nn])
      rw [ht] at HT
      dsimp only at HT
      rw [show (⟨s.data.toList.toArray⟩ : ByteArray) = s from rfl] at HT
      replace hr := hideC hr
      replace HT := hideC HT
      clear hn ht
      generalize ((nn : Nat) : Int) = nn at *
      clear h72 h67 h1 q83 q69 q82 q89 q78 q70 hw hs
      go_enter Tryd.func13, Tryd.ntmps13
      go_upto_region 30 with (first
        | (go_at_call 23; refine (HN.out _).mono ?_; rintro e w' ⟨rfl, rfl⟩)
        | (go_at_call 11; refine HT.out.mono ?_; rintro e w2 ⟨rfl, t2⟩))
      obtain ⟨bR, kR, kC⟩ := t2
      have c1 := kC.cell; have z1 := kC.lt; have c2 := kR.cell; have f2 := kR.thaw; have z2 := kR.lt
      go_wp2
      have hk := ret10 kR rfl bR (Nat.le_refl _) (.int .i64 7) (.int .i64 0) (.int .i64 0) (.int .i64 0) (.string ⟨#[]⟩) (.string ⟨#[]⟩) (.string ⟨#[]⟩) (.string ⟨#[]⟩) (.int .i64 0) (.int .i64 nn)
      clear c1 z1 c2 f2 z2 kC kR bR
      generalize World.setCell _ _ _ = WE at *
      obtain ⟨kE, bE⟩ := hk
      have cE := kE.cell
      exact bodyPost_ret (v := .tuple #[cv ⟨7, Job.zero, nn⟩, .int .i64 0]) (by simp [results, Tryd.results13, go_sem, cE, cv, cl, Job.zero]) rfl ⟨by rw [hr.out], by first | exact bE | exact bE.drew⟩
    · generalize (((Oct.number (s.data.toList.drop 2)).1 : Nat) : Int) = nn at *
      have HT := HT.out 7 nn [.int .i64 7, .int .i64 0, .int .i64 0, .int .i64 0, .string ⟨#[]⟩, .string ⟨#[]⟩, .string ⟨#[]⟩, .string ⟨#[]⟩, .int .i64 0, .int .i64 nn] _ (two_new w [.int .i64 7, .int .i64 0, .int .i64 0, .int .i64 0, .string ⟨#[]⟩, .string ⟨#[]⟩, .string ⟨#[]⟩, .string ⟨#[]⟩, .int .i64 0, .int .i64 nn])
      replace hr := hideC hr
      rcases Cmd.text_two ⟨7, Job.zero, nn⟩ with ⟨x, hx⟩ | ⟨q, hq, hx⟩
      · have hx' : Cmd.text ⟨7, Job.zero, nn⟩ = (x, 0) := hx
        have he : x ≠ s.data.toList := fun e => ht (by rw [hx', e])
        rw [hx'] at HT
        dsimp only at HT
        have hX : ((⟨x.toArray⟩ : ByteArray).toList == s.toList) = false := by rw [tl_eq, tl_eq]; exact beq_eq_false_iff_ne.2 he
        replace HT := hideC HT
        generalize (⟨x.toArray⟩ : ByteArray) = X at *
        clear hx hx' he ht
        by_cases hz : (Oct.number (s.data.toList.drop 2)).2 = 0
        · rw [hz] at HN
          clear hz
          clear h72 h67 h1 q83 q69 q82 q89 q78 q70 hw hs
          go_enter Tryd.func13, Tryd.ntmps13
          go_upto_region 30 with (first
            | (go_at_call 23; refine (HN.out _).mono ?_; rintro e w' ⟨rfl, rfl⟩)
            | (go_at_call 11; refine HT.out.mono ?_; rintro e w2 ⟨rfl, t2⟩))
          obtain ⟨bR, kR, kC⟩ := t2
          have c1 := kC.cell; have z1 := kC.lt; have c2 := kR.cell; have f2 := kR.thaw; have z2 := kR.lt
          go_wp2
          have hk := ret10 kR rfl bR (Nat.le_refl _) (.int .i64 0) (.int .i64 0) (.int .i64 0) (.int .i64 0) (.string ⟨#[]⟩) (.string ⟨#[]⟩) (.string ⟨#[]⟩) (.string ⟨#[]⟩) (.int .i64 0) (.int .i64 0)
          clear c1 z1 c2 f2 z2 kC kR bR
          generalize World.setCell _ _ _ = WE at *
          obtain ⟨kE, bE⟩ := hk
          have cE := kE.cell
          exact bodyPost_ret (v := .tuple #[cv Cmd.zero, .int .i64 3]) (by simp [results, Tryd.results13, go_sem, cE, cv, cl, Cmd.zero, Job.zero]) rfl ⟨by rw [hr.out], by first | exact bE | exact bE.drew⟩
        · obtain ⟨n2, n3, n4, n5⟩ := ne_facts hz
          generalize (Oct.number (s.data.toList.drop 2)).2 = y at *
          clear hz
          clear h72 h67 h1 q83 q69 q82 q89 q78 q70 hw hs
          go_enter Tryd.func13, Tryd.ntmps13
          go_upto_region 30 with (first
            | (go_at_call 23; refine (HN.out _).mono ?_; rintro e w' ⟨rfl, rfl⟩)
            | (go_at_call 11; refine HT.out.mono ?_; rintro e w2 ⟨rfl, t2⟩))
          obtain ⟨bR, kR, kC⟩ := t2
          have c1 := kC.cell; have z1 := kC.lt; have c2 := kR.cell; have f2 := kR.thaw; have z2 := kR.lt
          go_wp2
          have hk := ret10 kR rfl bR (Nat.le_refl _) (.int .i64 0) (.int .i64 0) (.int .i64 0) (.int .i64 0) (.string ⟨#[]⟩) (.string ⟨#[]⟩) (.string ⟨#[]⟩) (.string ⟨#[]⟩) (.int .i64 0) (.int .i64 0)
          clear c1 z1 c2 f2 z2 kC kR bR
          generalize World.setCell _ _ _ = WE at *
          obtain ⟨kE, bE⟩ := hk
          have cE := kE.cell
          exact bodyPost_ret (v := .tuple #[cv Cmd.zero, .int .i64 3]) (by simp [results, Tryd.results13, go_sem, cE, cv, cl, Cmd.zero, Job.zero]) rfl ⟨by rw [hr.out], by first | exact bE | exact bE.drew⟩
      · rw [hx] at HT
        dsimp only at HT
        obtain ⟨k2, k3, k4, k5⟩ := ne_facts hq
        replace HT := hideC HT
        clear hx hq ht
        by_cases hz : (Oct.number (s.data.toList.drop 2)).2 = 0
        · rw [hz] at HN
          clear hz
          clear h72 h67 h1 q83 q69 q82 q89 q78 q70 hw hs
          go_enter Tryd.func13, Tryd.ntmps13
          go_upto_region 30 with (first
            | (go_at_call 23; refine (HN.out _).mono ?_; rintro e w' ⟨rfl, rfl⟩)
            | (go_at_call 11; refine HT.out.mono ?_; rintro e w2 ⟨rfl, t2⟩))
          obtain ⟨bR, kR, kC⟩ := t2
          have c1 := kC.cell; have z1 := kC.lt; have c2 := kR.cell; have f2 := kR.thaw; have z2 := kR.lt
          go_wp2
          have hk := ret10 kR rfl bR (Nat.le_refl _) (.int .i64 0) (.int .i64 0) (.int .i64 0) (.int .i64 0) (.string ⟨#[]⟩) (.string ⟨#[]⟩) (.string ⟨#[]⟩) (.string ⟨#[]⟩) (.int .i64 0) (.int .i64 0)
          clear c1 z1 c2 f2 z2 kC kR bR
          generalize World.setCell _ _ _ = WE at *
          obtain ⟨kE, bE⟩ := hk
          have cE := kE.cell
          exact bodyPost_ret (v := .tuple #[cv Cmd.zero, .int .i64 3]) (by simp [results, Tryd.results13, go_sem, cE, cv, cl, Cmd.zero, Job.zero]) rfl ⟨by rw [hr.out], by first | exact bE | exact bE.drew⟩
        · obtain ⟨n2, n3, n4, n5⟩ := ne_facts hz
          generalize (Oct.number (s.data.toList.drop 2)).2 = y at *
          clear hz
          clear h72 h67 h1 q83 q69 q82 q89 q78 q70 hw hs
          go_enter Tryd.func13, Tryd.ntmps13
          go_upto_region 30 with (first
            | (go_at_call 23; refine (HN.out _).mono ?_; rintro e w' ⟨rfl, rfl⟩)
            | (go_at_call 11; refine HT.out.mono ?_; rintro e w2 ⟨rfl, t2⟩))
          obtain ⟨bR, kR, kC⟩ := t2
          have c1 := kC.cell; have z1 := kC.lt; have c2 := kR.cell; have f2 := kR.thaw; have z2 := kR.lt
          go_wp2
          have hk := ret10 kR rfl bR (Nat.le_refl _) (.int .i64 0) (.int .i64 0) (.int .i64 0) (.int .i64 0) (.string ⟨#[]⟩) (.string ⟨#[]⟩) (.string ⟨#[]⟩) (.string ⟨#[]⟩) (.int .i64 0) (.int .i64 0)
          clear c1 z1 c2 f2 z2 kC kR bR
          generalize World.setCell _ _ _ = WE at *
          obtain ⟨kE, bE⟩ := hk
          have cE := kE.cell
          exact bodyPost_ret (v := .tuple #[cv Cmd.zero, .int .i64 3]) (by simp [results, Tryd.results13, go_sem, cE, cv, cl, Cmd.zero, Job.zero]) rfl ⟨by rw [hr.out], by first | exact bE | exact bE.drew⟩
  have e70 : ((s[0].toNat : Int) == 70) = false := byte_ne2 (b := 70) q70
  have hr : Hid (Cmd.parse s.data.toList = (Cmd.zero, 3)) := Cmd.bad_first hl2 ⟨q83, q69, q82, q89, q78, q70⟩
  clear h72 h67 h1 q83 q69 q82 q89 q78 q70 hw hs HN HT
  go_enter Tryd.func13, Tryd.ntmps13
  go_wp2
  exact bodyPost_ret (v := .tuple #[cv Cmd.zero, .int .i64 3]) (by simp [results, Tryd.results13, go_sem, cv, cl, Cmd.zero, Job.zero]) rfl ⟨by rw [hr.out], by first | exact below_alloc1 _ _ | exact (below_alloc1 _ _).alloc (below_alloc1 _ _).size _⟩
end Go.Proofs.YtgnjjbpfgokndaaDoor
