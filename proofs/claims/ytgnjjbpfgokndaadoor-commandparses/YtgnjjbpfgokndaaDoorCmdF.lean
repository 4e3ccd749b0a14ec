/-
  Walks of layer 10: Parse.
-/
import Derived.Test.YtgnjjbpfgokndaaDoorCmdE
namespace Go.Proofs.YtgnjjbpfgokndaaDoor
open Go.RowKit

theorem small_jobC {j : Job.Jb} (h : Job.chk j = 0) : j.u.size ≤ 60 ∧ j.f.size ≤ 60 ∧ j.t.size ≤ 60 ∧ j.c.size ≤ 60 := by
  obtain ⟨h1, h2, h3, h4, h5, h6, h7, h8⟩ := Job.chk_ok.1 h
  have a := Job.usr_len h3
  have b := (Pth.chk_ok.1 h4).1
  have c := (Pth.chk_ok.1 h5).1
  have d := Job.cmd_len h6
  rw [Oct.len_eq] at a b c d
  omega
theorem cand_small (s : List UInt8) : (Cmd.cand s).j.u.size ≤ 60 ∧ (Cmd.cand s).j.f.size ≤ 60 ∧ (Cmd.cand s).j.t.size ≤ 60 ∧ (Cmd.cand s).j.c.size ≤ 60 := by
  unfold Cmd.cand
  rcases Job.parse_cases s with ⟨j, hj, hp⟩ | ⟨_, hp⟩
  · rw [hp, if_pos rfl]
    exact small_jobC hj.1
  · rw [hp, if_neg (by decide)]
    exact (show Job.zero.u.size ≤ 60 ∧ Job.zero.f.size ≤ 60 ∧ Job.zero.t.size ≤ 60 ∧ Job.zero.c.size ≤ 60 by decide)
set_option maxHeartbeats 2000000 in
set_option maxRecDepth 100000 in
theorem cparse_any (s : ByteArray) (w : World) (hw : Ok w) (hs : s.size ≤ 1000000) :
    Calls Tryd.prog 12 #[.string s] w fun e w' => e = .returned (.tuple #[cv (Cmd.parse s.data.toList).1, .int .i64 (Cmd.parse s.data.toList).2]) ∧ Below w.heap.size w w' := by
  have bw : Below w.heap.size w (w.alloc (.cells czero.toArray 27)) := below_alloc1 w _
  have hB0 : Rg.Bk w.heap.size czero 27 (w.alloc (.cells czero.toArray 27)) := Rg.Bk.new rfl
  have HR : Hid (Calls Tryd.prog 21 #[.string s] (w.alloc (.cells czero.toArray 27)) fun e w' => e = .returned (cv (Cmd.cand s.data.toList)) ∧ Below w.heap.size w w' ∧ Rg.Bk w.heap.size czero 27 w') :=
    (cread_any s _ (hw.below bw) hs).mono fun e w' ⟨h1, h2⟩ => ⟨h1, bw.trans (h2.mono bw.size), hB0.below h2 (by simp)⟩
  have hsm := cand_small s.data.toList
  have hy : Hid (Cmd.says s.data.toList (Cmd.cand s.data.toList) → Cmd.parse s.data.toList = (Cmd.cand s.data.toList, 0)) := Cmd.parse_yes
  have hn : Hid (¬ Cmd.says s.data.toList (Cmd.cand s.data.toList) → Cmd.parse s.data.toList = (Cmd.zero, 3)) := Cmd.parse_bad
  have HT : Hid (∀ W, Below w.heap.size w W → ∀ b, b < W.heap.size → Rg.Bk w.heap.size czero 27 W → Rg.Bk b (cl (Cmd.cand s.data.toList)) 27 W → Calls Tryd.prog 10 #[cv (Cmd.cand s.data.toList)] W fun e w' => e = .returned (.tuple #[.string ⟨(Cmd.text (Cmd.cand s.data.toList)).1.toArray⟩, .int .i64 ((Cmd.text (Cmd.cand s.data.toList)).2 : Nat)]) ∧ Below w.heap.size w w' ∧ Rg.Bk w.heap.size czero 27 w' ∧ Rg.Bk b (cl (Cmd.cand s.data.toList)) 27 w') := fun W hW b hb k1 k2 => by
    obtain ⟨a1, a2, a3, a4⟩ := hsm
    exact (ctext_any _ _ _ _ _ _ _ _ _ _ W (hw.below hW) (Nat.le_trans a1 (by decide)) (Nat.le_trans a2 (by decide)) (Nat.le_trans a3 (by decide)) (Nat.le_trans a4 (by decide))).mono fun e w' ⟨h1, h2⟩ => ⟨h1, hW.trans (h2.mono hW.size), k1.below h2 k1.lt, k2.below h2 k2.lt⟩
  generalize Cmd.cand s.data.toList = cd at *
  obtain ⟨v, ⟨g, n, k, u, f, t, c, z⟩, a⟩ := cd
  unfold cv cl at HT HR
  dsimp only at HT HR
  clear hsm hw hs hB0
  rcases Cmd.text_two ⟨v, ⟨g, n, k, u, f, t, c, z⟩, a⟩ with ⟨x, hx⟩ | ⟨q, hq, hx⟩
  · have hx' : Cmd.text ⟨v, ⟨g, n, k, u, f, t, c, z⟩, a⟩ = (x, 0) := hx
    rw [hx'] at HT
    dsimp only at HT
    by_cases he : x = s.data.toList
    · have hr : Hid (Cmd.parse s.data.toList = (⟨v, ⟨g, n, k, u, f, t, c, z⟩, a⟩, 0)) := hy.out (by rw [← he]; exact hx)
      have d1 : ((⟨x.toArray⟩ : ByteArray).toList == s.toList) = true := by rw [tl_eq, tl_eq]; exact beq_iff_eq.2 he
      generalize (⟨x.toArray⟩ : ByteArray) = X at *
      clear hy hn hx hx' he
      go_enter Tryd.func12, Tryd.ntmps12
      go_upto_region 2 with (go_at_call 21; refine HR.out.mono ?_; rintro e w1 ⟨rfl, b1, k1⟩)
      have kC : Rg.Bk w1.heap.size [.int .i64 v, .int .i64 g, .int .i64 n, .int .i64 k, .string u, .string f, .string t, .string c, .int .i64 z, .int .i64 a] 27 (w1.alloc (.cells #[.int .i64 v, .int .i64 g, .int .i64 n, .int .i64 k, .string u, .string f, .string t, .string c, .int .i64 z, .int .i64 a] 27)) := Rg.Bk.new rfl
      have kR : Rg.Bk w.heap.size czero 27 (w1.alloc (.cells #[.int .i64 v, .int .i64 g, .int .i64 n, .int .i64 k, .string u, .string f, .string t, .string c, .int .i64 z, .int .i64 a] 27)) := k1.old _
      have bR : Below w.heap.size w (w1.alloc (.cells #[.int .i64 v, .int .i64 g, .int .i64 n, .int .i64 k, .string u, .string f, .string t, .string c, .int .i64 z, .int .i64 a] 27)) := b1.alloc b1.size _
      have hne : w1.heap.size ≠ w.heap.size := by have := k1.lt; omega
      have hne' : ¬ (w.heap.size = w1.heap.size) := by omega
      generalize w1.heap.size = m at *
      generalize (w1.alloc (.cells #[.int .i64 v, .int .i64 g, .int .i64 n, .int .i64 k, .string u, .string f, .string t, .string c, .int .i64 z, .int .i64 a] 27)) = W1 at *
      have c0 := kC.cell; have z0 := kC.lt
      have HT := HT.out _ bR _ z0 kR kC
      replace HT := hideC HT
      go_wp2_with (go_at_call 10; refine HT.out.mono ?_; rintro e w2 ⟨rfl, b2, k2, k3⟩; have c1 := k2.cell; have f1 := k2.thaw; have z1 := k2.lt; have c2 := k3.cell; have z2 := k3.lt)
      have hk := ret10 k2 rfl b2 (Nat.le_refl _) (.int .i64 v) (.int .i64 g) (.int .i64 n) (.int .i64 k) (.string u) (.string f) (.string t) (.string c) (.int .i64 z) (.int .i64 a)
      clear c1 f1 z1 c2 z2 k2 k3 b2 HR HT
      generalize World.setCell _ _ _ = WE at *
      obtain ⟨kE, bE⟩ := hk
      have cE := kE.cell
      exact bodyPost_ret (v := .tuple #[cv ⟨v, ⟨g, n, k, u, f, t, c, z⟩, a⟩, .int .i64 0]) (by simp [results, Tryd.results12, go_sem, cE, cv, cl]) rfl ⟨by rw [hr.out], by first | exact bE | exact bE.drew⟩
    · have hr : Hid (Cmd.parse s.data.toList = (Cmd.zero, 3)) := hn.out (fun h => he (by have h2 : Cmd.text ⟨v, ⟨g, n, k, u, f, t, c, z⟩, a⟩ = (s.data.toList, 0) := h; rw [hx'] at h2; exact (Prod.mk.inj h2).1))
      have d1 : ((⟨x.toArray⟩ : ByteArray).toList == s.toList) = false := by rw [tl_eq, tl_eq]; exact beq_eq_false_iff_ne.2 he
      generalize (⟨x.toArray⟩ : ByteArray) = X at *
      clear hy hn hx hx' he
      go_enter Tryd.func12, Tryd.ntmps12
      go_upto_region 2 with (go_at_call 21; refine HR.out.mono ?_; rintro e w1 ⟨rfl, b1, k1⟩)
      have kC : Rg.Bk w1.heap.size [.int .i64 v, .int .i64 g, .int .i64 n, .int .i64 k, .string u, .string f, .string t, .string c, .int .i64 z, .int .i64 a] 27 (w1.alloc (.cells #[.int .i64 v, .int .i64 g, .int .i64 n, .int .i64 k, .string u, .string f, .string t, .string c, .int .i64 z, .int .i64 a] 27)) := Rg.Bk.new rfl
      have kR : Rg.Bk w.heap.size czero 27 (w1.alloc (.cells #[.int .i64 v, .int .i64 g, .int .i64 n, .int .i64 k, .string u, .string f, .string t, .string c, .int .i64 z, .int .i64 a] 27)) := k1.old _
      have bR : Below w.heap.size w (w1.alloc (.cells #[.int .i64 v, .int .i64 g, .int .i64 n, .int .i64 k, .string u, .string f, .string t, .string c, .int .i64 z, .int .i64 a] 27)) := b1.alloc b1.size _
      have hne : w1.heap.size ≠ w.heap.size := by have := k1.lt; omega
      have hne' : ¬ (w.heap.size = w1.heap.size) := by omega
      generalize w1.heap.size = m at *
      generalize (w1.alloc (.cells #[.int .i64 v, .int .i64 g, .int .i64 n, .int .i64 k, .string u, .string f, .string t, .string c, .int .i64 z, .int .i64 a] 27)) = W1 at *
      have c0 := kC.cell; have z0 := kC.lt
      have HT := HT.out _ bR _ z0 kR kC
      replace HT := hideC HT
      go_wp2_with (go_at_call 10; refine HT.out.mono ?_; rintro e w2 ⟨rfl, b2, k2, k3⟩; have c1 := k2.cell; have f1 := k2.thaw; have z1 := k2.lt; have c2 := k3.cell; have z2 := k3.lt)
      have hk := ret10 k2 rfl b2 (Nat.le_refl _) (.int .i64 0) (.int .i64 0) (.int .i64 0) (.int .i64 0) (.string ⟨#[]⟩) (.string ⟨#[]⟩) (.string ⟨#[]⟩) (.string ⟨#[]⟩) (.int .i64 0) (.int .i64 0)
      clear c1 f1 z1 c2 z2 k2 k3 b2 HR HT
      generalize World.setCell _ _ _ = WE at *
      obtain ⟨kE, bE⟩ := hk
      have cE := kE.cell
      exact bodyPost_ret (v := .tuple #[cv Cmd.zero, .int .i64 3]) (by simp [results, Tryd.results12, go_sem, cE, cv, cl, Cmd.zero, Job.zero]) rfl ⟨by rw [hr.out], by first | exact bE | exact bE.drew⟩
  · rw [hx] at HT
    have hr : Hid (Cmd.parse s.data.toList = (Cmd.zero, 3)) := hn.out (fun h => hq (by have h2 : Cmd.text ⟨v, ⟨g, n, k, u, f, t, c, z⟩, a⟩ = (s.data.toList, 0) := h; rw [hx] at h2; exact (Prod.mk.inj h2).2))
    obtain ⟨n1, n2, n3, n4⟩ := ne_facts hq
    dsimp only at HT
    clear hy hn hx hq
    go_enter Tryd.func12, Tryd.ntmps12
    go_upto_region 2 with (go_at_call 21; refine HR.out.mono ?_; rintro e w1 ⟨rfl, b1, k1⟩)
    have kC : Rg.Bk w1.heap.size [.int .i64 v, .int .i64 g, .int .i64 n, .int .i64 k, .string u, .string f, .string t, .string c, .int .i64 z, .int .i64 a] 27 (w1.alloc (.cells #[.int .i64 v, .int .i64 g, .int .i64 n, .int .i64 k, .string u, .string f, .string t, .string c, .int .i64 z, .int .i64 a] 27)) := Rg.Bk.new rfl
    have kR : Rg.Bk w.heap.size czero 27 (w1.alloc (.cells #[.int .i64 v, .int .i64 g, .int .i64 n, .int .i64 k, .string u, .string f, .string t, .string c, .int .i64 z, .int .i64 a] 27)) := k1.old _
    have bR : Below w.heap.size w (w1.alloc (.cells #[.int .i64 v, .int .i64 g, .int .i64 n, .int .i64 k, .string u, .string f, .string t, .string c, .int .i64 z, .int .i64 a] 27)) := b1.alloc b1.size _
    have hne : w1.heap.size ≠ w.heap.size := by have := k1.lt; omega
    have hne' : ¬ (w.heap.size = w1.heap.size) := by omega
    generalize w1.heap.size = m at *
    generalize (w1.alloc (.cells #[.int .i64 v, .int .i64 g, .int .i64 n, .int .i64 k, .string u, .string f, .string t, .string c, .int .i64 z, .int .i64 a] 27)) = W1 at *
    have c0 := kC.cell; have z0 := kC.lt
    have HT := HT.out _ bR _ z0 kR kC
    replace HT := hideC HT
    go_wp2_with (go_at_call 10; refine HT.out.mono ?_; rintro e w2 ⟨rfl, b2, k2, k3⟩; have c1 := k2.cell; have f1 := k2.thaw; have z1 := k2.lt; have c2 := k3.cell; have z2 := k3.lt)
    have hk := ret10 k2 rfl b2 (Nat.le_refl _) (.int .i64 0) (.int .i64 0) (.int .i64 0) (.int .i64 0) (.string ⟨#[]⟩) (.string ⟨#[]⟩) (.string ⟨#[]⟩) (.string ⟨#[]⟩) (.int .i64 0) (.int .i64 0)
    clear c1 f1 z1 c2 z2 k2 k3 b2 HR HT
    generalize World.setCell _ _ _ = WE at *
    obtain ⟨kE, bE⟩ := hk
    have cE := kE.cell
    exact bodyPost_ret (v := .tuple #[cv Cmd.zero, .int .i64 3]) (by simp [results, Tryd.results12, go_sem, cE, cv, cl, Cmd.zero, Job.zero]) rfl ⟨by rw [hr.out], by first | exact bE | exact bE.drew⟩
end Go.Proofs.YtgnjjbpfgokndaaDoor
