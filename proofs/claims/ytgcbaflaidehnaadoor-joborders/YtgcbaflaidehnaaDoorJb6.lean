/-
  Walks of layer 5: Text.
-/
import Derived.Test.YtgcbaflaidehnaaDoorJb4
import Derived.Test.YtgcbaflaidehnaaDoorJoinJ
import Derived.Deep.RegionHeld3
import Derived.Deep.DeepCutAuto
namespace Go.Proofs.YtgcbaflaidehnaaDoor
open Go.RowKit

theorem joinJ (v : Value) (B : Nat) (xs : List ByteArray) (w : World) (h : w.ownsRow B 9 1 v xs.length (xs.map Value.string)) (h2 : 2 ≤ xs.length) (hn : xs.length ≤ 100000) (hlen : Lib.lens (xs.map (·.data.toList)) ≤ 100000) :
    Calls Tryd.prog 19 #[v, .string ⟨#[32]⟩] w fun e w' => e = .returned (.string ⟨(Job.jn (xs.map (·.data.toList))).toArray⟩) ∧ Below w.heap.size w w' := by
  obtain ⟨g, cap, rfl, _, hg, hc, hm, ht⟩ := owned_texts h (by intro e; rw [e] at h2; simp at h2)
  exact join_many g cap xs _ w ht hg h2 hn hc hm rfl hlen
theorem own_six (W : World) (B : Nat) (a b c d e f : ByteArray) (hB : B ≤ W.heap.size) :
    (W.alloc (.cells #[.string a, .string b, .string c, .string d, .string e, .string f] 9)).ownsRow B 9 1 (.slice (some ⟨W.heap.size, 0, none⟩) 6 6) 6 ([a, b, c, d, e, f].map Value.string) :=
  ⟨rfl, .inr ⟨W.heap.size, 6, #[.string a, .string b, .string c, .string d, .string e, .string f], rfl, hB, heap_alloc_new W _, Nat.le_refl _, by unfold maxLen; omega, rfl, rfl⟩⟩

set_option maxHeartbeats 4000000 in
set_option maxRecDepth 100000 in
theorem jtext_yes (g n k : Int) (u f t c : ByteArray) (z : Int) (w : World) (hw : Ok w) (h0 : Job.chk ⟨g, n, k, u, f, t, c, z⟩ = 0) (hu : u.size ≤ maxLen) (hf : f.size ≤ maxLen) (ht : t.size ≤ maxLen) (hc : c.size ≤ maxLen) :
    Calls Tryd.prog 8 #[.agg #[.int .i64 g, .int .i64 n, .int .i64 k, .string u, .string f, .string t, .string c, .int .i64 z]] w fun e w' => e = .returned (.tuple #[.string ⟨(Job.txt ⟨g, n, k, u, f, t, c, z⟩).toArray⟩, .int .i64 0]) ∧ Below w.heap.size w w' := by
  obtain ⟨w0, hw0e⟩ : ∃ w0, w0 = w.alloc (.cells #[.int .i64 g, .int .i64 n, .int .i64 k, .string u, .string f, .string t, .string c, .int .i64 z] 29) := ⟨_, rfl⟩
  have hb0 : w.heap.size < w0.heap.size := by rw [hw0e]; simp
  have hk0 : Keeps w.heap.size g n k u f t c z w0 := by rw [hw0e]; exact keeps_new g n k u f t c z w _
  have bw : Below w.heap.size w w0 := by rw [hw0e]; exact below_alloc1 w _
  have hw0 : Ok w0 := hw.below bw
  obtain ⟨h1, h2, h3, h4, h5, h6, h7, h8⟩ := Job.chk_ok.1 h0
  have HK : Hid (∀ W, Below w0.heap.size w0 W → Calls Tryd.prog 15 #[.agg #[.int .i64 g, .int .i64 n, .int .i64 k, .string u, .string f, .string t, .string c, .int .i64 z]] W fun e w' => e = .returned (.int .i64 0) ∧ Below w0.heap.size w0 w' ∧ Keeps w.heap.size g n k u f t c z w') := fun W hW => chain hk0 hb0 hW (by
    have := jcheck_any g n k u f t c z W (hw0.below hW) hu hf ht hc
    rw [h0] at this
    exact this)
  have HI : Hid (∀ W, Below w0.heap.size w0 W → Calls Tryd.prog 16 #[.agg #[.int .i64 g, .int .i64 n]] W fun e w' => e = .returned (.tuple #[.string ⟨(Nam.idT g n).toArray⟩, .int .i64 0]) ∧ Below w0.heap.size w0 w' ∧ Keeps w.heap.size g n k u f t c z w') := fun W hW => chain hk0 hb0 hW (id_yes g n W h1 (hw0.below hW).tab)
  have HL : Hid (∀ W, Calls Tryd.prog 17 #[.int .i64 k] W fun e w' => e = .returned (.string ⟨(Job.ltr k).toArray⟩) ∧ w' = W) := fun W => letter_any k W
  have HT : Hid (∀ W, Below w0.heap.size w0 W → Calls Tryd.prog 18 #[.int .i64 z] W fun e w' => e = .returned (.string ⟨(Lib.itoa z).toArray⟩) ∧ Below w0.heap.size w0 w' ∧ Keeps w.heap.size g n k u f t c z w') := fun W hW => chain hk0 hb0 hW (text_any z W (by simp only at h7; omega) (by simp only at h8; omega) (hw0.below hW).tab)
  have hkk : Hid (Keeps w.heap.size g n k u f t c z w0) := hk0
  obtain ⟨j0, j1, j2, j3, j4, j5, j6, j7⟩ := hk0
  have hws : Hid (Job.ws ⟨g, n, k, u, f, t, c, z⟩ = [Job.ltr k, Nam.idT g n, u.data.toList, f.data.toList, t.data.toList, Lib.itoa z] ++ (if k = 2 then [c.data.toList] else [])) := rfl
  have hls : Hid (Lib.lens (Job.ws ⟨g, n, k, u, f, t, c, z⟩) ≤ 159) := Job.ws_lens h0
  have H0 : Hid (Job.txt ⟨g, n, k, u, f, t, c, z⟩ = Job.jn (Job.ws ⟨g, n, k, u, f, t, c, z⟩)) := rfl
  obtain ⟨L, hL⟩ : ∃ L : ByteArray, Hid (L = ⟨(Job.ltr k).toArray⟩) := ⟨_, rfl⟩
  obtain ⟨X, hX⟩ : ∃ X : ByteArray, Hid (X = ⟨(Nam.idT g n).toArray⟩) := ⟨_, rfl⟩
  obtain ⟨Z, hZ⟩ : ∃ Z : ByteArray, Hid (Z = ⟨(Lib.itoa z).toArray⟩) := ⟨_, rfl⟩
  rw [← hL.out] at HL
  rw [← hX.out] at HI
  rw [← hZ.out] at HT
  clear h1 h2 h3 h4 h5 h6 h7 h8 h0 hw0 hw
  subst hw0e
  go_enter Tryd.func8, Tryd.ntmps8
  go_upto_region 5 with (first
    | (go_at_call 15; refine (HK.out _ (by first | exact Below.refl _ _ | assumption)).mono ?_; rintro e w' ⟨rfl, b', i0, i1, i2, i3, i4, i5, i6, i7⟩)
    | (go_at_call 16; refine (HI.out _ (by first | exact Below.refl _ _ | assumption)).mono ?_; rintro e w' ⟨rfl, b', i0, i1, i2, i3, i4, i5, i6, i7⟩))
  go_cut [7] (fun s7 wx => ∃ W, Below (w.alloc (.cells #[.int .i64 g, .int .i64 n, .int .i64 k, .string u, .string f, .string t, .string c, .int .i64 z] 29)).heap.size (w.alloc (.cells #[.int .i64 g, .int .i64 n, .int .i64 k, .string u, .string f, .string t, .string c, .int .i64 z] 29)) W ∧ s7 = .slice (some ⟨W.heap.size, 0, none⟩) 6 6 ∧ wx = W.alloc (.cells #[.string L, .string X, .string u, .string f, .string t, .string Z] 9))
  case first =>
    go_region_held3 (fun w' => w'.cell? ⟨w.heap.size, 2, none⟩ = some (.int .i64 k) ∧ w'.cell? ⟨w.heap.size, 3, none⟩ = some (.string u) ∧ w'.cell? ⟨w.heap.size, 4, none⟩ = some (.string f) ∧ w'.cell? ⟨w.heap.size, 5, none⟩ = some (.string t) ∧ w'.cell? ⟨w.heap.size, 7, none⟩ = some (.int .i64 z)) (go_keep) (first
      | (go_at_call 17; refine (HL.out _).mono ?_; rintro e w'' ⟨rfl, rfl⟩)
      | (go_at_call 18; refine (HT.out _ ?_).mono ?_; (first | assumption | exact Below.drew (by assumption)); rintro e w'' ⟨rfl, b'', k0, k1, k2, k3, k4, k5, k6, k7⟩))
    all_goals (go_wp2_with fail; go_meet; exact ⟨_, by first | assumption | exact Below.drew (by assumption), rfl, rfl⟩)
  case rest =>
    obtain ⟨W, hW, rfl, rfl⟩ := hcut
    have bR : Below (w.alloc (.cells #[.int .i64 g, .int .i64 n, .int .i64 k, .string u, .string f, .string t, .string c, .int .i64 z] 29)).heap.size (w.alloc (.cells #[.int .i64 g, .int .i64 n, .int .i64 k, .string u, .string f, .string t, .string c, .int .i64 z] 29)) (W.alloc (.cells #[.string L, .string X, .string u, .string f, .string t, .string Z] 9)) := hW.alloc hW.size _
    have hR : (w.alloc (.cells #[.int .i64 g, .int .i64 n, .int .i64 k, .string u, .string f, .string t, .string c, .int .i64 z] 29)).heap.size ≤ (W.alloc (.cells #[.string L, .string X, .string u, .string f, .string t, .string Z] 9)).heap.size := bR.size
    obtain ⟨m0, m1, m2, m3, m4, m5, m6, m7⟩ := hkk.out.below bR hb0
    have hown := own_six W (w.alloc (.cells #[.int .i64 g, .int .i64 n, .int .i64 k, .string u, .string f, .string t, .string c, .int .i64 z] 29)).heap.size L X u f t Z hW.size
    generalize hWR : W.alloc (.cells #[.string L, .string X, .string u, .string f, .string t, .string Z] 9) = WR at *
    clear b' i0 i1 i2 i3 i4 i5 i6 i7
    by_cases hk2 : k = 2
    · subst hk2
      have HJ : Hid (∀ v B W2, W2.ownsRow B 9 1 v 7 ([L, X, u, f, t, Z, c].map Value.string) → Calls Tryd.prog 19 #[v, .string ⟨#[32]⟩] W2 fun e w' => e = .returned (.string ⟨(Job.txt ⟨g, n, 2, u, f, t, c, z⟩).toArray⟩) ∧ Below W2.heap.size W2 w') := fun v B W2 h => by
        have hw : [L, X, u, f, t, Z, c].map (·.data.toList) = Job.ws ⟨g, n, 2, u, f, t, c, z⟩ := by
          rw [hws.out, if_pos rfl, hL.out, hX.out, hZ.out]; rfl
        have := joinJ v B [L, X, u, f, t, Z, c] W2 h (by simp) (by simp) (by rw [hw]; have := hls.out; omega)
        rw [hw, ← H0.out] at this
        exact this
      obtain ⟨i0, hi, hz0, hz1, hz2⟩ : ∃ i0, Tryd.prog.info? 9 = some i0 ∧ i0.zero = some (.string ByteArray.empty) ∧ i0.size = 1 ∧ i0.bytes = 16 := by
        have := infoStr
        cases h : Tryd.prog.info? 9 with
        | none => rw [h] at this; cases this
        | some i => rw [h] at this; simp only [Option.map_some, Option.some.injEq, Prod.mk.injEq] at this; exact ⟨i, rfl, this.1, this.2.1, this.2.2⟩
      go_wp2_with (at_builtin; refine wpList_append_own _ rfl _ _ 43 rfl (w.alloc (.cells #[.int .i64 g, .int .i64 n, .int .i64 2, .string u, .string f, .string t, .string c, .int .i64 z] 29)).heap.size 9 i0 (.string ByteArray.empty) 1 16 Tryd.underlying43 hi hz0 hz1 hz2 rfl (by decide) _ _ _ rfl (hown.alloc _) ⟨_, 0, none⟩ 1 1 [.string c] rfl rfl (news9 _ _) ?c2 ?c3 ?c4 ?c5 ?_)
      case c2 => first | rfl | (intro u hu; simp at hu; subst hu; rfl)
      (try case c3 => unfold maxLen; omega)
      (try case c4 => omega)
      (try case c5 => first | omega | (simp; omega))
      intro v' w2 hown' hgrow _
      have b2 : Below (w.alloc (.cells #[.int .i64 g, .int .i64 n, .int .i64 2, .string u, .string f, .string t, .string c, .int .i64 z] 29)).heap.size (w.alloc (.cells #[.int .i64 g, .int .i64 n, .int .i64 2, .string u, .string f, .string t, .string c, .int .i64 z] 29)) w2 := below_own bR hR hgrow hown
      go_wp2_with (go_at_call 19; refine (HJ.out _ _ _ hown').mono ?_; rintro e w3 ⟨rfl, b3⟩)
      go_ret2
      exact ⟨rfl, bw.trans ((b2.trans (b3.mono b2.size)).mono bw.size)⟩
    · have hd : (k == 2) = false := by simp [hk2]
      have hd' : decide (k = 2) = false := by simp [hk2]
      have HJ : Hid (Calls Tryd.prog 19 #[.slice (some ⟨W.heap.size, 0, none⟩) 6 6, .string ⟨#[32]⟩] WR fun e w' => e = .returned (.string ⟨(Job.txt ⟨g, n, k, u, f, t, c, z⟩).toArray⟩) ∧ Below WR.heap.size WR w') := by
        have hw : [L, X, u, f, t, Z].map (·.data.toList) = Job.ws ⟨g, n, k, u, f, t, c, z⟩ := by
          rw [hws.out, if_neg hk2, hL.out, hX.out, hZ.out]; rfl
        have := joinJ _ _ [L, X, u, f, t, Z] WR hown (by simp) (by simp) (by rw [hw]; have := hls.out; omega)
        rw [hw, ← H0.out] at this
        exact this
      go_wp2_with (go_at_call 19; refine HJ.out.mono ?_; rintro e w3 ⟨rfl, b3⟩)
      go_ret2
      exact ⟨rfl, bw.trans ((bR.trans (b3.mono bR.size)).mono bw.size)⟩
end Go.Proofs.YtgcbaflaidehnaaDoor
