/-
  Walks of layer 10: the document's Text.
-/
import Derived.Test.YtgnjjbpfgokndaaDoorCmdC
namespace Go.Proofs.YtgnjjbpfgokndaaDoor
open Go.RowKit

theorem neqs {a b : Int} (h : a ≠ b) : ¬ a = b ∧ (a == b) = false ∧ (a != b) = true ∧ decide (a = b) = false := ⟨h, beq_eq_false_iff_ne.2 h, by simp [h], decide_eq_false h⟩
namespace Cmd
theorem at_no {v a : Int} (h : ¬ (0 ≤ a ∧ a ≤ most v)) : atOf v a = false := by
  unfold atOf
  rw [← Bool.not_eq_true, Bool.and_eq_true, decide_eq_true_eq, decide_eq_true_eq]
  exact h
theorem text_at {c : Cw} (h : atOf c.v c.a = false) : text c = ([], 1) := text_bad (by rw [h]; exact Bool.and_false _)
theorem text_job {c : Cw} (h : jobOf c.v c.j = false) : text c = ([], 1) := text_bad (by rw [h]; rfl)
theorem ref1 {j : Job.Jb} (h : j.k ≠ 3) : text ⟨1, j, 0⟩ = Job.text j := by
  by_cases hk : j.k = 1 ∨ j.k = 2
  · exact text_ok1 (c := ⟨1, j, 0⟩) (by unfold jobOf; rw [if_pos rfl, Bool.or_eq_true, beq_iff_eq, beq_iff_eq]; exact hk) (show atOf 1 0 = true by decide) (.inl rfl)
  · have hc : Job.chk j = 1 := Job.chk1 (by
      have : Job.knd j.k = false := by
        unfold Job.knd
        rw [beq_eq_false_iff_ne.2 (fun c => hk (.inl c)), beq_eq_false_iff_ne.2 (fun c => hk (.inr c)), beq_eq_false_iff_ne.2 h]; rfl
      rw [this]; exact Bool.and_false _)
    rw [text_job (c := ⟨1, j, 0⟩)]
    · unfold Job.text; rw [hc]; rfl
    · show jobOf 1 j = false
      unfold jobOf
      rw [if_pos rfl, beq_eq_false_iff_ne.2 (fun c => hk (.inl c)), beq_eq_false_iff_ne.2 (fun c => hk (.inr c))]; rfl
theorem ref1k {j : Job.Jb} {a : Int} (h : j.k = 3) : text ⟨1, j, a⟩ = ([], 1) := text_job (by show jobOf 1 j = false; unfold jobOf; rw [if_pos rfl, h]; rfl)
theorem ref1a {j : Job.Jb} {a : Int} (h : a ≠ 0) : text ⟨1, j, a⟩ = ([], 1) := text_at (at_no (by show ¬ (0 ≤ a ∧ a ≤ most 1); have : most 1 = 0 := by decide
                                                                                                  rw [this]; omega))
theorem ref2 {j : Job.Jb} (h : j.k = 3) : text ⟨2, j, 0⟩ = Job.text j :=
  text_ok1 (c := ⟨2, j, 0⟩) (by show jobOf 2 j = true; unfold jobOf; rw [if_neg (by decide), if_pos rfl, h]; rfl) (show atOf 2 0 = true by decide) (.inr rfl)
theorem ref2k {j : Job.Jb} {a : Int} (h : j.k ≠ 3) : text ⟨2, j, a⟩ = ([], 1) := text_job (by show jobOf 2 j = false; unfold jobOf; rw [if_neg (by decide), if_pos rfl]; exact beq_eq_false_iff_ne.2 h)
theorem ref2a {j : Job.Jb} {a : Int} (h : a ≠ 0) : text ⟨2, j, a⟩ = ([], 1) := text_at (at_no (by show ¬ (0 ≤ a ∧ a ≤ most 2); have : most 2 = 0 := by decide
                                                                                                  rw [this]; omega))
theorem refz {v : Int} {j : Job.Jb} {a : Int} (h1 : v ≠ 1) (h2 : v ≠ 2) (h : j ≠ Job.zero) : text ⟨v, j, a⟩ = ([], 1) := text_job (by show jobOf v j = false; unfold jobOf; rw [if_neg h1, if_neg h2]; exact decide_eq_false h)
theorem zok {v : Int} (h1 : v ≠ 1) (h2 : v ≠ 2) : jobOf v Job.zero = true := by unfold jobOf; rw [if_neg h1, if_neg h2]; exact decide_eq_true rfl
theorem at_yes {v a : Int} (h0 : 0 ≤ a) (h : a ≤ most v) : atOf v a = true := by unfold atOf; rw [decide_eq_true h0, decide_eq_true h]; rfl
end Cmd

theorem code_any (a : Int) (w : World) : Calls Tryd.prog 20 #[.int .i64 a] w fun e w' => e = .returned (.bool (decide (0 ≤ a) && decide (a ≤ 9))) ∧ w' = w := by
  cases d0 : decide (0 ≤ a)
  · have d0' : ¬ 0 ≤ a := of_decide_eq_false d0
    go_enter Tryd.func20, Tryd.ntmps20
    go_wp2
    go_ret
    exact ⟨rfl, rfl⟩
  · have d0' : 0 ≤ a := of_decide_eq_true d0
    go_enter Tryd.func20, Tryd.ntmps20
    go_wp2
    go_ret
    exact ⟨ret_bool (by simp), rfl⟩

set_option maxHeartbeats 8000000 in
set_option maxRecDepth 100000 in
theorem rctext_any (v g n k : Int) (u f t c : ByteArray) (z a : Int) (w : World) (hw : Ok w) (hu : u.size ≤ maxLen) (hf : f.size ≤ maxLen) (ht : t.size ≤ maxLen) (hc : c.size ≤ maxLen) :
    Calls Tryd.prog 11 #[.agg #[.int .i64 v, .int .i64 g, .int .i64 n, .int .i64 k, .string u, .string f, .string t, .string c, .int .i64 z, .int .i64 a]] w fun e w' => e = .returned (.tuple #[.string ⟨(Cmd.text ⟨v, ⟨g, n, k, u, f, t, c, z⟩, a⟩).1.toArray⟩, .int .i64 ((Cmd.text ⟨v, ⟨g, n, k, u, f, t, c, z⟩, a⟩).2 : Nat)]) ∧ Below w.heap.size w w' := by
  have hb0 : w.heap.size < (w.alloc (.cells #[.int .i64 v, .int .i64 g, .int .i64 n, .int .i64 k, .string u, .string f, .string t, .string c, .int .i64 z, .int .i64 a] 27)).heap.size := by simp
  have hk0 : CK w.heap.size v g n k u f t c z a (w.alloc (.cells #[.int .i64 v, .int .i64 g, .int .i64 n, .int .i64 k, .string u, .string f, .string t, .string c, .int .i64 z, .int .i64 a] 27)) := ck_new v g n k u f t c z a w _
  have bw : Below w.heap.size w (w.alloc (.cells #[.int .i64 v, .int .i64 g, .int .i64 n, .int .i64 k, .string u, .string f, .string t, .string c, .int .i64 z, .int .i64 a] 27)) := below_alloc1 w _
  have hw0 : Ok (w.alloc (.cells #[.int .i64 v, .int .i64 g, .int .i64 n, .int .i64 k, .string u, .string f, .string t, .string c, .int .i64 z, .int .i64 a] 27)) := hw.below bw
  have bR : Below (w.alloc (.cells #[.int .i64 v, .int .i64 g, .int .i64 n, .int .i64 k, .string u, .string f, .string t, .string c, .int .i64 z, .int .i64 a] 27)).heap.size (w.alloc (.cells #[.int .i64 v, .int .i64 g, .int .i64 n, .int .i64 k, .string u, .string f, .string t, .string c, .int .i64 z, .int .i64 a] 27)) (w.alloc (.cells #[.int .i64 v, .int .i64 g, .int .i64 n, .int .i64 k, .string u, .string f, .string t, .string c, .int .i64 z, .int .i64 a] 27)) := Below.refl _ _
  have HT : Hid (∀ W, Below (w.alloc (.cells #[.int .i64 v, .int .i64 g, .int .i64 n, .int .i64 k, .string u, .string f, .string t, .string c, .int .i64 z, .int .i64 a] 27)).heap.size (w.alloc (.cells #[.int .i64 v, .int .i64 g, .int .i64 n, .int .i64 k, .string u, .string f, .string t, .string c, .int .i64 z, .int .i64 a] 27)) W → Calls Tryd.prog 18 #[.agg #[.int .i64 g, .int .i64 n, .int .i64 k, .string u, .string f, .string t, .string c, .int .i64 z]] W fun e w' => e = .returned (.tuple #[.string ⟨(Job.text ⟨g, n, k, u, f, t, c, z⟩).1.toArray⟩, .int .i64 ((Job.text ⟨g, n, k, u, f, t, c, z⟩).2 : Nat)]) ∧ Below (w.alloc (.cells #[.int .i64 v, .int .i64 g, .int .i64 n, .int .i64 k, .string u, .string f, .string t, .string c, .int .i64 z, .int .i64 a] 27)).heap.size (w.alloc (.cells #[.int .i64 v, .int .i64 g, .int .i64 n, .int .i64 k, .string u, .string f, .string t, .string c, .int .i64 z, .int .i64 a] 27)) w' ∧ w.heap.size < w'.heap.size ∧ CK w.heap.size v g n k u f t c z a w') := fun W hW => cchain hk0 hb0 hW (rjtext_any g n k u f t c z W (hw0.below hW) hu hf ht hc)
  have HN : Hid (0 ≤ a → a ≤ 6000 → ∀ W, Below (w.alloc (.cells #[.int .i64 v, .int .i64 g, .int .i64 n, .int .i64 k, .string u, .string f, .string t, .string c, .int .i64 z, .int .i64 a] 27)).heap.size (w.alloc (.cells #[.int .i64 v, .int .i64 g, .int .i64 n, .int .i64 k, .string u, .string f, .string t, .string c, .int .i64 z, .int .i64 a] 27)) W → Calls Tryd.prog 19 #[.int .i64 a] W fun e w' => e = .returned (.string ⟨(Lib.itoa a).toArray⟩) ∧ Below (w.alloc (.cells #[.int .i64 v, .int .i64 g, .int .i64 n, .int .i64 k, .string u, .string f, .string t, .string c, .int .i64 z, .int .i64 a] 27)).heap.size (w.alloc (.cells #[.int .i64 v, .int .i64 g, .int .i64 n, .int .i64 k, .string u, .string f, .string t, .string c, .int .i64 z, .int .i64 a] 27)) w' ∧ w.heap.size < w'.heap.size ∧ CK w.heap.size v g n k u f t c z a w') := fun h0 h1 W hW => cchain hk0 hb0 hW (refText_any a W (by omega) (by omega))
  have HC : Hid (∀ W, Calls Tryd.prog 20 #[.int .i64 a] W fun e w' => e = .returned (.bool (decide (0 ≤ a) && decide (a ≤ 9))) ∧ w' = W) := fun W => code_any a W
  obtain ⟨j0, j1, j2, j3, j4, j5, j6, j7, j8, j9⟩ := hk0
  clear hw hw0 hu hf ht hc
  by_cases h1 : v = 1
  · subst h1
    clear HN HC
    by_cases hk : k = 3
    · have hr : Hid (Cmd.text ⟨1, ⟨g, n, k, u, f, t, c, z⟩, a⟩ = ([], 1)) := Cmd.ref1k hk
      subst hk
      clear HT
      go_enter Tryd.func11, Tryd.ntmps11
      go_wp2
      go_ret2
      exact ⟨by rw [hr.out]; rfl, by first | exact bw | exact bw.trans (Below.mono (by assumption) bw.size)⟩
    · by_cases ha : a = 0
      · subst ha
        have hr : Hid (Cmd.text ⟨1, ⟨g, n, k, u, f, t, c, z⟩, 0⟩ = Job.text ⟨g, n, k, u, f, t, c, z⟩) := Cmd.ref1 hk
        obtain ⟨n1, n2, n3, n4⟩ := neqs hk
        generalize Job.text ⟨g, n, k, u, f, t, c, z⟩ = q at *
        go_enter Tryd.func11, Tryd.ntmps11
        go_wp2_with (go_at_call 18; refine (HT.out _ (by assumption)).mono ?_; rintro e w' ⟨rfl, b', z', i0, i1, i2, i3, i4, i5, i6, i7, i8, i9⟩)
        go_ret2
        exact ⟨by rw [hr.out]; rfl, by first | exact bw | exact bw.trans (Below.mono (by assumption) bw.size)⟩
      · have hr : Hid (Cmd.text ⟨1, ⟨g, n, k, u, f, t, c, z⟩, a⟩ = ([], 1)) := Cmd.ref1a ha
        obtain ⟨n1, n2, n3, n4⟩ := neqs hk
        obtain ⟨m1, m2, m3, m4⟩ := neqs ha
        clear HT
        go_enter Tryd.func11, Tryd.ntmps11
        go_wp2
        go_ret2
        exact ⟨by rw [hr.out]; rfl, by first | exact bw | exact bw.trans (Below.mono (by assumption) bw.size)⟩
  by_cases h2 : v = 2
  · subst h2
    clear HN HC h1
    by_cases hk : k = 3
    · by_cases ha : a = 0
      · subst ha
        have hr : Hid (Cmd.text ⟨2, ⟨g, n, k, u, f, t, c, z⟩, 0⟩ = Job.text ⟨g, n, k, u, f, t, c, z⟩) := Cmd.ref2 hk
        generalize Job.text ⟨g, n, k, u, f, t, c, z⟩ = q at *
        subst hk
        go_enter Tryd.func11, Tryd.ntmps11
        go_wp2_with (go_at_call 18; refine (HT.out _ (by assumption)).mono ?_; rintro e w' ⟨rfl, b', z', i0, i1, i2, i3, i4, i5, i6, i7, i8, i9⟩)
        go_ret2
        exact ⟨by rw [hr.out]; rfl, by first | exact bw | exact bw.trans (Below.mono (by assumption) bw.size)⟩
      · have hr : Hid (Cmd.text ⟨2, ⟨g, n, k, u, f, t, c, z⟩, a⟩ = ([], 1)) := Cmd.ref2a ha
        obtain ⟨m1, m2, m3, m4⟩ := neqs ha
        subst hk
        clear HT
        go_enter Tryd.func11, Tryd.ntmps11
        go_wp2
        go_ret2
        exact ⟨by rw [hr.out]; rfl, by first | exact bw | exact bw.trans (Below.mono (by assumption) bw.size)⟩
    · have hr : Hid (Cmd.text ⟨2, ⟨g, n, k, u, f, t, c, z⟩, a⟩ = ([], 1)) := Cmd.ref2k hk
      obtain ⟨n1, n2, n3, n4⟩ := neqs hk
      clear HT
      go_enter Tryd.func11, Tryd.ntmps11
      go_wp2
      go_ret2
      exact ⟨by rw [hr.out]; rfl, by first | exact bw | exact bw.trans (Below.mono (by assumption) bw.size)⟩
  clear HT
  have e1 := beq0 h1
  have e2 := beq0 h2
  by_cases hz : (⟨g, n, k, u, f, t, c, z⟩ : Job.Jb) = Job.zero
  · unfold Job.zero at hz
    simp only [Job.Jb.mk.injEq] at hz
    obtain ⟨rfl, rfl, rfl, rfl, rfl, rfl, rfl, rfl⟩ := hz
    have hj : Cmd.jobOf v ⟨0, 0, 0, ⟨#[]⟩, ⟨#[]⟩, ⟨#[]⟩, ⟨#[]⟩, 0⟩ = true := Cmd.zok h1 h2
    by_cases h3 : v = 3
    · subst h3
      clear HN HC 
      by_cases ha : a = 0
      · subst ha
        have hr : Hid (Cmd.text ⟨3, ⟨0, 0, 0, ⟨#[]⟩, ⟨#[]⟩, ⟨#[]⟩, ⟨#[]⟩, 0⟩, 0⟩ = ([72], 0)) := by show _ = _; decide
        clear hj h1 h2 e1 e2
        go_enter Tryd.func11, Tryd.ntmps11
        go_wp2
        go_ret2
        exact ⟨by rw [hr.out]; rfl, by first | exact bw | exact bw.trans (Below.mono (by assumption) bw.size)⟩
      · have hr : Hid (Cmd.text ⟨3, ⟨0, 0, 0, ⟨#[]⟩, ⟨#[]⟩, ⟨#[]⟩, ⟨#[]⟩, 0⟩, a⟩ = ([], 1)) := Cmd.text_at (Cmd.at_no (by show ¬ (0 ≤ a ∧ a ≤ Cmd.most 3); rw [show Cmd.most 3 = 0 by decide]; omega))
        obtain ⟨m1, m2, m3, m4⟩ := neqs ha
        clear hj h1 h2 e1 e2
        go_enter Tryd.func11, Tryd.ntmps11
        go_wp2
        go_ret2
        exact ⟨by rw [hr.out]; rfl, by first | exact bw | exact bw.trans (Below.mono (by assumption) bw.size)⟩
    have e3 := beq0 h3
    by_cases h6 : v = 6
    · subst h6
      clear HN HC h3
      by_cases ha : a = 0
      · subst ha
        have hr : Hid (Cmd.text ⟨6, ⟨0, 0, 0, ⟨#[]⟩, ⟨#[]⟩, ⟨#[]⟩, ⟨#[]⟩, 0⟩, 0⟩ = ([67], 0)) := by show _ = _; decide
        clear hj h1 h2 e1 e2
        go_enter Tryd.func11, Tryd.ntmps11
        go_wp2
        go_ret2
        exact ⟨by rw [hr.out]; rfl, by first | exact bw | exact bw.trans (Below.mono (by assumption) bw.size)⟩
      · have hr : Hid (Cmd.text ⟨6, ⟨0, 0, 0, ⟨#[]⟩, ⟨#[]⟩, ⟨#[]⟩, ⟨#[]⟩, 0⟩, a⟩ = ([], 1)) := Cmd.text_at (Cmd.at_no (by show ¬ (0 ≤ a ∧ a ≤ Cmd.most 6); rw [show Cmd.most 6 = 0 by decide]; omega))
        obtain ⟨m1, m2, m3, m4⟩ := neqs ha
        clear hj h1 h2 e1 e2
        go_enter Tryd.func11, Tryd.ntmps11
        go_wp2
        go_ret2
        exact ⟨by rw [hr.out]; rfl, by first | exact bw | exact bw.trans (Below.mono (by assumption) bw.size)⟩
    have e6 := beq0 h6
    by_cases h4 : v = 4
    · subst h4
      clear HC h3 h6 e3 e6
      by_cases ha0 : 0 ≤ a
      · by_cases ha1 : a ≤ 6000
        · have hr : Hid (Cmd.text ⟨4, ⟨0, 0, 0, ⟨#[]⟩, ⟨#[]⟩, ⟨#[]⟩, ⟨#[]⟩, 0⟩, a⟩ = (89 :: 32 :: Lib.itoa a, 0)) := (Cmd.text_num hj (Cmd.at_yes ha0 (by rw [show Cmd.most 4 = 6000 by decide]; exact ha1))).2.1 rfl
          have HN := HN.out ha0 ha1
          have hx : Hid ((⟨#[89, 32]⟩ : ByteArray) ++ ⟨(Lib.itoa a).toArray⟩ = ⟨(89 :: 32 :: Lib.itoa a).toArray⟩) := ba_app [89, 32] _
          have hl : (⟨(Lib.itoa a).toArray⟩ : ByteArray).size ≤ 21 := Lib.itoa_length_le a (by omega) (by omega)
          replace HN := hideC HN
          generalize (⟨(Lib.itoa a).toArray⟩ : ByteArray) = X at *
          have d0 := decide_eq_true ha0
          have d1 := decide_eq_true ha1
          clear hj h1 h2 e1 e2
          go_enter Tryd.func11, Tryd.ntmps11
          go_wp2_with (go_at_call 19; refine (HN.out _ (by assumption)).mono ?_; rintro e w' ⟨rfl, b', z', i0, i1, i2, i3, i4, i5, i6, i7, i8, i9⟩)
          go_ret2
          exact ⟨by rw [hr.out]; exact ret_se hx.out rfl, by first | exact bw | exact bw.trans (Below.mono (by assumption) bw.size)⟩
        · have hr : Hid (Cmd.text ⟨4, ⟨0, 0, 0, ⟨#[]⟩, ⟨#[]⟩, ⟨#[]⟩, ⟨#[]⟩, 0⟩, a⟩ = ([], 1)) := Cmd.text_at (Cmd.at_no (by show ¬ (0 ≤ a ∧ a ≤ Cmd.most 4); rw [show Cmd.most 4 = 6000 by decide]; omega))
          have d0 := decide_eq_true ha0
          have d1 := decide_eq_false ha1
          clear hj h1 h2 e1 e2 HN
          go_enter Tryd.func11, Tryd.ntmps11
          go_wp2
          go_ret2
          exact ⟨by rw [hr.out]; rfl, by first | exact bw | exact bw.trans (Below.mono (by assumption) bw.size)⟩
      · have hr : Hid (Cmd.text ⟨4, ⟨0, 0, 0, ⟨#[]⟩, ⟨#[]⟩, ⟨#[]⟩, ⟨#[]⟩, 0⟩, a⟩ = ([], 1)) := Cmd.text_at (Cmd.at_no (by show ¬ (0 ≤ a ∧ a ≤ Cmd.most 4); omega))
        have d0 := decide_eq_false ha0
        clear hj h1 h2 e1 e2 HN
        go_enter Tryd.func11, Tryd.ntmps11
        go_wp2
        go_ret2
        exact ⟨by rw [hr.out]; rfl, by first | exact bw | exact bw.trans (Below.mono (by assumption) bw.size)⟩
    have e4 := beq0 h4
    by_cases h5 : v = 5
    · subst h5
      clear h3 h6 h4 e3 e6 e4 
      by_cases ha : 0 ≤ a ∧ a ≤ 9
      · have hr : Hid (Cmd.text ⟨5, ⟨0, 0, 0, ⟨#[]⟩, ⟨#[]⟩, ⟨#[]⟩, ⟨#[]⟩, 0⟩, a⟩ = (78 :: 32 :: Lib.itoa a, 0)) := (Cmd.text_num hj (Cmd.at_yes ha.1 (by rw [show Cmd.most 5 = 9 by decide]; exact ha.2))).2.2.1 rfl
        have HN := HN.out ha.1 (by omega)
        have hx : Hid ((⟨#[78, 32]⟩ : ByteArray) ++ ⟨(Lib.itoa a).toArray⟩ = ⟨(78 :: 32 :: Lib.itoa a).toArray⟩) := ba_app [78, 32] _
        have hl : (⟨(Lib.itoa a).toArray⟩ : ByteArray).size ≤ 21 := Lib.itoa_length_le a (by omega) (by omega)
        replace HN := hideC HN
        rw [decide_eq_true ha.1, decide_eq_true ha.2] at HC
        generalize (⟨(Lib.itoa a).toArray⟩ : ByteArray) = X at *
        clear hj h1 h2 e1 e2 ha
        go_enter Tryd.func11, Tryd.ntmps11
        go_wp2_with (first
          | (go_at_call 20; refine (HC.out _).mono ?_; rintro e w1 ⟨rfl, rfl⟩)
          | (go_at_call 19; refine (HN.out _ (by assumption)).mono ?_; rintro e w' ⟨rfl, b', z', i0, i1, i2, i3, i4, i5, i6, i7, i8, i9⟩))
        go_ret2
        exact ⟨by rw [hr.out]; exact ret_se hx.out rfl, by first | exact bw | exact bw.trans (Below.mono (by assumption) bw.size)⟩
      · have hr : Hid (Cmd.text ⟨5, ⟨0, 0, 0, ⟨#[]⟩, ⟨#[]⟩, ⟨#[]⟩, ⟨#[]⟩, 0⟩, a⟩ = ([], 1)) := Cmd.text_at (Cmd.at_no (by show ¬ (0 ≤ a ∧ a ≤ Cmd.most 5); rw [show Cmd.most 5 = 9 by decide]; exact ha))
        have hx : (decide (0 ≤ a) && decide (a ≤ 9)) = false := by rw [← Bool.not_eq_true, Bool.and_eq_true, decide_eq_true_eq, decide_eq_true_eq]; exact ha
        rw [hx] at HC
        clear hj h1 h2 e1 e2 ha hx HN
        go_enter Tryd.func11, Tryd.ntmps11
        go_wp2_with (go_at_call 20; refine (HC.out _).mono ?_; rintro e w1 ⟨rfl, rfl⟩)
        go_ret2
        exact ⟨by rw [hr.out]; rfl, by first | exact bw | exact bw.trans (Below.mono (by assumption) bw.size)⟩
    have e5 := beq0 h5
    by_cases h7 : v = 7
    · subst h7
      clear h3 h6 h4 e3 e6 e4 h5 e5
      by_cases ha : 0 ≤ a ∧ a ≤ 9
      · have hr : Hid (Cmd.text ⟨7, ⟨0, 0, 0, ⟨#[]⟩, ⟨#[]⟩, ⟨#[]⟩, ⟨#[]⟩, 0⟩, a⟩ = (70 :: 32 :: Lib.itoa a, 0)) := (Cmd.text_num hj (Cmd.at_yes ha.1 (by rw [show Cmd.most 7 = 9 by decide]; exact ha.2))).2.2.2.2 rfl
        have HN := HN.out ha.1 (by omega)
        have hx : Hid ((⟨#[70, 32]⟩ : ByteArray) ++ ⟨(Lib.itoa a).toArray⟩ = ⟨(70 :: 32 :: Lib.itoa a).toArray⟩) := ba_app [70, 32] _
        have hl : (⟨(Lib.itoa a).toArray⟩ : ByteArray).size ≤ 21 := Lib.itoa_length_le a (by omega) (by omega)
        replace HN := hideC HN
        rw [decide_eq_true ha.1, decide_eq_true ha.2] at HC
        generalize (⟨(Lib.itoa a).toArray⟩ : ByteArray) = X at *
        clear hj h1 h2 e1 e2 ha
        go_enter Tryd.func11, Tryd.ntmps11
        go_wp2_with (first
          | (go_at_call 20; refine (HC.out _).mono ?_; rintro e w1 ⟨rfl, rfl⟩)
          | (go_at_call 19; refine (HN.out _ (by assumption)).mono ?_; rintro e w' ⟨rfl, b', z', i0, i1, i2, i3, i4, i5, i6, i7, i8, i9⟩))
        go_ret2
        exact ⟨by rw [hr.out]; exact ret_se hx.out rfl, by first | exact bw | exact bw.trans (Below.mono (by assumption) bw.size)⟩
      · have hr : Hid (Cmd.text ⟨7, ⟨0, 0, 0, ⟨#[]⟩, ⟨#[]⟩, ⟨#[]⟩, ⟨#[]⟩, 0⟩, a⟩ = ([], 1)) := Cmd.text_at (Cmd.at_no (by show ¬ (0 ≤ a ∧ a ≤ Cmd.most 7); rw [show Cmd.most 7 = 9 by decide]; exact ha))
        have hx : (decide (0 ≤ a) && decide (a ≤ 9)) = false := by rw [← Bool.not_eq_true, Bool.and_eq_true, decide_eq_true_eq, decide_eq_true_eq]; exact ha
        rw [hx] at HC
        clear hj h1 h2 e1 e2 ha hx HN
        go_enter Tryd.func11, Tryd.ntmps11
        go_wp2_with (go_at_call 20; refine (HC.out _).mono ?_; rintro e w1 ⟨rfl, rfl⟩)
        go_ret2
        exact ⟨by rw [hr.out]; rfl, by first | exact bw | exact bw.trans (Below.mono (by assumption) bw.size)⟩
    have e7 := beq0 h7
    have hr : Hid (Cmd.text ⟨v, ⟨0, 0, 0, ⟨#[]⟩, ⟨#[]⟩, ⟨#[]⟩, ⟨#[]⟩, 0⟩, a⟩ = ([], 1)) := Cmd.text_oth h1 h2 h3 h4 h5 h6 h7
    clear hj h1 h2 h3 h4 h5 h6 h7 HN HC
    go_enter Tryd.func11, Tryd.ntmps11
    go_wp2
    go_ret2
    exact ⟨by rw [hr.out]; rfl, by first | exact bw | exact bw.trans (Below.mono (by assumption) bw.size)⟩
  have hr : Hid (Cmd.text ⟨v, ⟨g, n, k, u, f, t, c, z⟩, a⟩ = ([], 1)) := Cmd.refz h1 h2 hz
  clear h1 h2 HN HC
  by_cases q0 : g = 0
  · subst q0
    by_cases q1 : n = 0
    · subst q1
      by_cases q2 : k = 0
      · subst q2
        by_cases q3 : u = ⟨#[]⟩
        · subst q3
          by_cases q4 : f = ⟨#[]⟩
          · subst q4
            by_cases q5 : t = ⟨#[]⟩
            · subst q5
              by_cases q6 : c = ⟨#[]⟩
              · subst q6
                by_cases q7 : z = 0
                · subst q7
                  exact absurd rfl hz
                · have dd := beq0 q7
                  clear q7 hz
                  go_enter Tryd.func11, Tryd.ntmps11
                  go_wp2
                  go_ret2
                  exact ⟨by rw [hr.out]; rfl, by first | exact bw | exact bw.trans (Below.mono (by assumption) bw.size)⟩
              · have dd := be_of q6
                clear q6 hz
                go_enter Tryd.func11, Tryd.ntmps11
                go_wp2
                go_ret2
                exact ⟨by rw [hr.out]; rfl, by first | exact bw | exact bw.trans (Below.mono (by assumption) bw.size)⟩
            · have dd := be_of q5
              clear q5 hz
              go_enter Tryd.func11, Tryd.ntmps11
              go_wp2
              go_ret2
              exact ⟨by rw [hr.out]; rfl, by first | exact bw | exact bw.trans (Below.mono (by assumption) bw.size)⟩
          · have dd := be_of q4
            clear q4 hz
            go_enter Tryd.func11, Tryd.ntmps11
            go_wp2
            go_ret2
            exact ⟨by rw [hr.out]; rfl, by first | exact bw | exact bw.trans (Below.mono (by assumption) bw.size)⟩
        · have dd := be_of q3
          clear q3 hz
          go_enter Tryd.func11, Tryd.ntmps11
          go_wp2
          go_ret2
          exact ⟨by rw [hr.out]; rfl, by first | exact bw | exact bw.trans (Below.mono (by assumption) bw.size)⟩
      · have dd := beq0 q2
        clear q2 hz
        go_enter Tryd.func11, Tryd.ntmps11
        go_wp2
        go_ret2
        exact ⟨by rw [hr.out]; rfl, by first | exact bw | exact bw.trans (Below.mono (by assumption) bw.size)⟩
    · have dd := beq0 q1
      clear q1 hz
      go_enter Tryd.func11, Tryd.ntmps11
      go_wp2
      go_ret2
      exact ⟨by rw [hr.out]; rfl, by first | exact bw | exact bw.trans (Below.mono (by assumption) bw.size)⟩
  · have dd := beq0 q0
    clear q0 hz
    go_enter Tryd.func11, Tryd.ntmps11
    go_wp2
    go_ret2
    exact ⟨by rw [hr.out]; rfl, by first | exact bw | exact bw.trans (Below.mono (by assumption) bw.size)⟩
end Go.Proofs.YtgnjjbpfgokndaaDoor
