/-
  Layer 6: the document's disk: after.
-/
import Derived.Test.YtempiajepomajaaRf3
namespace Go.Proofs.Ytempiajepomajaa
open Go.RowKit

theorem after2 (l : List Dsk.Fl) (n t d : ByteArray) : Dsk.after l ⟨2, n, t, d⟩ = Dsk.put l ⟨n, ((Dsk.get l n).getD ByteArray.empty) ++ d⟩ := by simp [Dsk.after]
theorem after3n {l : List Dsk.Fl} {n t d : ByteArray} (h : Dsk.get l n = none) : Dsk.after l ⟨3, n, t, d⟩ = l := by simp [Dsk.after, h]
theorem after3s {l : List Dsk.Fl} {n t d y : ByteArray} (h : Dsk.get l n = some y) (ht : ¬ n = t) : Dsk.after l ⟨3, n, t, d⟩ = Dsk.put (Dsk.cut l n) ⟨t, y⟩ := by simp [Dsk.after, h, ht]
theorem after3e {l : List Dsk.Fl} {n d y : ByteArray} (h : Dsk.get l n = some y) : Dsk.after l ⟨3, n, n, d⟩ = l := by simp [Dsk.after, h]

set_option maxHeartbeats 2000000 in
set_option maxRecDepth 100000 in
theorem rafter_any (g cap : Nat) (l : List Dsk.Fl) (k : Int) (n t d : ByteArray) (w : World) (hn : l.length ≤ 1000000000) (hu : Dsk.used l + d.size ≤ 1000000000000) (hc : l.length ≤ cap) (hrow : fileE.Row w (some ⟨g, 0, none⟩) l) :
    Calls Try.prog 46 #[.slice (some ⟨g, 0, none⟩) l.length cap, .agg #[.int .i64 k, .string n, .string t, .string d]] w fun e w' => RPost w (Dsk.after l ⟨k, n, t, d⟩) e w' := by
  have HF : Hid (∀ W, Below w.heap.size w W → Calls Try.prog 41 #[.slice (some ⟨g, 0, none⟩) l.length cap, .string n] W fun e w' => e = .returned (.tuple #[.int .i64 (Dsk.pos l n), .bool (Dsk.has l n)]) ∧ Below W.heap.size W w') := fun W hW => rfind_any _ cap l n W hn (hrow.below hW)
  have HP : Hid (∀ W n' x', Below w.heap.size w W → Calls Try.prog 61 #[.slice (some ⟨g, 0, none⟩) l.length cap, .agg #[.string n', .string x']] W fun e w' => RPost w (Dsk.put l ⟨n', x'⟩) e w') := fun W n' x' hW => (rput_any g cap l n' x' W hn hc (hrow.below hW)).mono fun e w' ⟨a1, a2, a3, a4, a5, a6⟩ => ⟨a1, a2, a3, a4, a5, Rg.chain hW a6⟩
  have HD : Hid (∀ W, Below w.heap.size w W → Calls Try.prog 62 #[.slice (some ⟨g, 0, none⟩) l.length cap, .string n] W fun e w' => RPost w (Dsk.cut l n) e w') := fun W hW => (rdrop_any g cap l n W hn hc (hrow.below hW)).mono fun e w' ⟨a1, a2, a3, a4, a5, a6⟩ => ⟨a1, a2, a3, a4, a5, Rg.chain hW a6⟩
  have HDf : Hid (∀ W, Below w.heap.size w W → Calls Try.prog 62 #[.slice (some ⟨g, 0, none⟩) l.length cap, .string n] W fun e w' => RPost W (Dsk.cut l n) e w') := fun W hW => rdrop_any g cap l n W hn hc (hrow.below hW)
  obtain ⟨l', hl'⟩ : ∃ l', l' = Dsk.after l ⟨k, n, t, d⟩ := ⟨_, rfl⟩
  rw [← hl']
  replace hl' := Rg.hid hl'.symm
  have hbB := Rg.hid (Rg.al1 w (.cells #[.int .i64 k, .string n, .string t, .string d] 56))
  have hkB : Rg.Bk w.heap.size [.int .i64 k, .string n, .string t, .string d] 56 (w.alloc (.cells #[.int .i64 k, .string n, .string t, .string d] 56)) := Rg.Bk.new rfl
  obtain ⟨N, hN⟩ : ∃ N, N = l.length := ⟨_, rfl⟩
  rw [← hN] at HF HP HD HDf hn hc ⊢
  replace hN := Rg.hid hN
  replace hrow := Rg.hid hrow
  cases hh : Dsk.has l n
  · have hg : Dsk.get l n = none := by unfold Dsk.has at hh; cases e : Dsk.get l n; (· rfl); rw [e] at hh; cases hh
    have hget : Hid (Dsk.get l n = none) := hg
    rw [hh] at HF
    have hsz : d.size ≤ 1000000000000 := by omega
    generalize Dsk.pos l n = p at *
    clear hh hg hu
    go_enter Try.func46, Try.ntmps46
    go_upto_region 5 with (go_at_call 41; refine (HF.out _ (Rg.al1 _ _)).mono ?_; rintro e w5 ⟨rfl, b5⟩)
    have hb5 := Rg.chain hbB.out b5
    have kB5 := hkB.below b5 hkB.lt
    obtain ⟨B, hBd⟩ : ∃ B, B = w.heap.size := ⟨_, rfl⟩
    rw [← hBd] at kB5 ⊢
    have hk5 : Hid (∀ W, Below w5.heap.size w5 W → Rg.Bk B [.int .i64 k, .string n, .string t, .string d] 56 W) := fun W hW => kB5.below hW kB5.lt
    have o0 : w5.cell? ⟨B, 0, none⟩ = some (.int .i64 k) := kB5.cell 0
    have o1 : w5.cell? ⟨B, 1, none⟩ = some (.string n) := kB5.cell 1
    have o2 : w5.cell? ⟨B, 2, none⟩ = some (.string t) := kB5.cell 2
    have o3 : w5.cell? ⟨B, 3, none⟩ = some (.string d) := kB5.cell 3
    clear HF hkB hbB b5 hBd kB5
    by_cases h1 : k = 1
    · subst h1
      have hpost : Hid (∀ W, Below w.heap.size w W → Calls Try.prog 61 #[.slice (some ⟨g, 0, none⟩) N cap, .agg #[.string n, .string d]] W fun e w' => RPost w l' e w') := fun W hW => by
        have := HP.out W n d hW
        rw [show Dsk.put l ⟨n, d⟩ = l' by rw [← hl'.out]; rfl] at this; exact this
      clear hl' HP HD HDf
      go_wp2_with (go_at_call 61; refine (hpost.out _ hb5).mono ?_)
      rintro e w9 ⟨g9, cap9, rfl, r9, c9, b9⟩
      go_wp2
      go_ret
      exact ⟨g9, cap9, rfl, r9, c9, b9⟩
    have d1 : (k == 1) = false := by simp [h1]
    by_cases h2 : k = 2
    · subst h2
      have hpost : Hid (∀ W, Below w.heap.size w W → Calls Try.prog 61 #[.slice (some ⟨g, 0, none⟩) N cap, .agg #[.string n, .string (⟨#[]⟩ ++ d)]] W fun e w' => RPost w l' e w') := fun W hW => by
        have := HP.out W n (⟨#[]⟩ ++ d) hW
        rw [show Dsk.put l ⟨n, ⟨#[]⟩ ++ d⟩ = l' by rw [← hl'.out, after2, hget.out]; rfl] at this; exact this
      clear hl' HP HD HDf
      go_wp2_with (go_at_call 61; refine (hpost.out _ hb5).mono ?_)
      rintro e w9 ⟨g9, cap9, rfl, r9, c9, b9⟩
      go_wp2
      go_ret
      exact ⟨g9, cap9, rfl, r9, c9, b9⟩
    have d2 : (k == 2) = false := by simp [h2]
    by_cases h3 : k = 3
    · subst h3
      have hpost : Hid (RPost w l' (.returned (.slice (some ⟨g, 0, none⟩) N cap)) w5) := ⟨g, cap, by rw [← hl'.out, after3n hget.out, hN.out], by rw [← hl'.out, after3n hget.out]; exact hrow.out.below hb5, by rw [← hl'.out, after3n hget.out, ← hN.out]; exact hc, hb5⟩
      clear hl' HP HD HDf
      go_wp2
      go_ret
      exact hpost.out
    have d3 : (k == 3) = false := by simp [h3]
    by_cases h4 : k = 4
    · subst h4
      have HD2 : Hid (∀ W, Below w.heap.size w W → Calls Try.prog 62 #[.slice (some ⟨g, 0, none⟩) N cap, .string n] W fun e w' => RPost w l' e w') := fun W hW => by
        have := HD.out W hW
        rw [show Dsk.cut l n = l' by rw [← hl'.out]; rfl] at this; exact this
      clear hl' HP HD HDf
      go_wp2_with (go_at_call 62; refine (HD2.out _ hb5).mono ?_)
      rintro e w9 ⟨g9, cap9, rfl, r9, c9, b9⟩
      go_wp2
      go_ret
      exact ⟨g9, cap9, rfl, r9, c9, b9⟩
    have d4 : (k == 4) = false := by simp [h4]
    have hle : Dsk.after l ⟨k, n, t, d⟩ = l := by unfold Dsk.after; rw [if_neg h1, if_neg h2, if_neg h3, if_neg h4]
    have hpost : Hid (RPost w l' (.returned (.slice (some ⟨g, 0, none⟩) N cap)) w5) := ⟨g, cap, by rw [← hl'.out, hle, hN.out], by rw [← hl'.out, hle]; exact hrow.out.below hb5, by rw [← hl'.out, hle, ← hN.out]; exact hc, hb5⟩
    clear hl' HP HD HDf hle h1 h2 h3 h4
    go_wp2
    go_ret
    exact hpost.out
  · obtain ⟨y, hg⟩ := has_get hh
    have hget : Hid (Dsk.get l n = some y) := hg
    obtain ⟨hp, hpn, hpd⟩ := Dsk.get_some_iff.1 hg
    have hys := Dsk.get_used hg
    have hsz : y.size + d.size ≤ 1000000000000 := by omega
    have hyc : Hid (∀ W, Below w.heap.size w W → W.cell? ⟨g, Dsk.pos l n * 2, none⟩ = some (.string n) ∧ W.cell? ⟨g, Dsk.pos l n * 2 + 1, none⟩ = some (.string y)) := fun W hW => by
      have q := (hrow.out.below hW).some.2.elem hp
      rw [Nat.zero_add] at q
      obtain ⟨q0, q1⟩ := file_at (show Rg.At W g (Dsk.pos l n * 2) (fileE.enc ⟨l[Dsk.pos l n].n, l[Dsk.pos l n].d⟩) from q)
      rw [hpn] at q0; rw [hpd] at q1
      exact ⟨q0, q1⟩
    rw [hh] at HF
    rw [← hN.out] at hp
    clear hh hg hu hys hpn hpd
    generalize Dsk.pos l n = p at *
    have hz0 : (0 : Int) ≤ (p : Int) := by omega
    have hz1 : (p : Int) < (N : Int) := by omega
    go_enter Try.func46, Try.ntmps46
    go_upto_region 3 with (go_at_call 41; refine (HF.out _ (Rg.al1 _ _)).mono ?_; rintro e w5 ⟨rfl, b5⟩)
    have hb5 := Rg.chain hbB.out b5
    have kB5 := hkB.below b5 hkB.lt
    obtain ⟨B, hBd⟩ : ∃ B, B = w.heap.size := ⟨_, rfl⟩
    rw [← hBd] at kB5 ⊢
    have hk5 : Hid (∀ W, Below w5.heap.size w5 W → Rg.Bk B [.int .i64 k, .string n, .string t, .string d] 56 W) := fun W hW => kB5.below hW kB5.lt
    have o0 : w5.cell? ⟨B, 0, none⟩ = some (.int .i64 k) := kB5.cell 0
    have o1 : w5.cell? ⟨B, 1, none⟩ = some (.string n) := kB5.cell 1
    have o2 : w5.cell? ⟨B, 2, none⟩ = some (.string t) := kB5.cell 2
    have o3 : w5.cell? ⟨B, 3, none⟩ = some (.string d) := kB5.cell 3
    obtain ⟨c0, c1⟩ := hyc.out w5 hb5
    clear HF hkB hbB b5 hBd kB5 hyc
    go_upto_region 5 with fail
    clear c0 c1
    by_cases h1 : k = 1
    · subst h1
      have hpost : Hid (∀ W, Below w.heap.size w W → Calls Try.prog 61 #[.slice (some ⟨g, 0, none⟩) N cap, .agg #[.string n, .string d]] W fun e w' => RPost w l' e w') := fun W hW => by
        have := HP.out W n d hW
        rw [show Dsk.put l ⟨n, d⟩ = l' by rw [← hl'.out]; rfl] at this; exact this
      clear hl' HP HD HDf
      go_wp2_with (go_at_call 61; refine (hpost.out _ hb5).mono ?_)
      rintro e w9 ⟨g9, cap9, rfl, r9, c9, b9⟩
      go_wp2
      go_ret
      exact ⟨g9, cap9, rfl, r9, c9, b9⟩
    have d1 : (k == 1) = false := by simp [h1]
    by_cases h2 : k = 2
    · subst h2
      have hpost : Hid (∀ W, Below w.heap.size w W → Calls Try.prog 61 #[.slice (some ⟨g, 0, none⟩) N cap, .agg #[.string n, .string (y ++ d)]] W fun e w' => RPost w l' e w') := fun W hW => by
        have := HP.out W n (y ++ d) hW
        rw [show Dsk.put l ⟨n, y ++ d⟩ = l' by rw [← hl'.out, after2, hget.out]; rfl] at this; exact this
      clear hl' HP HD HDf
      go_wp2_with (go_at_call 61; refine (hpost.out _ hb5).mono ?_)
      rintro e w9 ⟨g9, cap9, rfl, r9, c9, b9⟩
      go_wp2
      go_ret
      exact ⟨g9, cap9, rfl, r9, c9, b9⟩
    have d2 : (k == 2) = false := by simp [h2]
    by_cases h3 : k = 3
    · subst h3
      by_cases ht : n = t
      · have dt : (n.toList == t.toList) = true := by simp [ht]
        have hle : Dsk.after l ⟨3, n, t, d⟩ = l := by subst ht; exact after3e hget.out
        have hpost : Hid (RPost w l' (.returned (.slice (some ⟨g, 0, none⟩) N cap)) w5) := ⟨g, cap, by rw [← hl'.out, hle, hN.out], by rw [← hl'.out, hle]; exact hrow.out.below hb5, by rw [← hl'.out, hle, ← hN.out]; exact hc, hb5⟩
        clear hl' HP HD HDf hle
        replace ht := Rg.hid ht
        go_wp2
        go_ret
        exact hpost.out
      · have dt : (n.toList == t.toList) = false := by rw [beq_eq_false_iff_ne]; exact fun e => ht ((tl_inj _ _).1 e)
        have hle : Dsk.after l ⟨3, n, t, d⟩ = Dsk.put (Dsk.cut l n) ⟨t, y⟩ := after3s hget.out ht
        have hcl : (Dsk.cut l n).length ≤ 1000000000 := by rw [Dsk.cut_there l n (by rw [hget.out]; simp)]; simp; have := hN.out; omega
        have HP2 : Hid (∀ W g' cap', Below w5.heap.size w5 W → fileE.Row W (some ⟨g', 0, none⟩) (Dsk.cut l n) → (Dsk.cut l n).length ≤ cap' → Calls Try.prog 61 #[.slice (some ⟨g', 0, none⟩) (Dsk.cut l n).length cap', .agg #[.string t, .string y]] W fun e w' => RPost W l' e w') := fun W g' cap' hW h1 h2 => by
          have := rput_any g' cap' (Dsk.cut l n) t y W hcl h2 h1
          rw [← hle, hl'.out] at this
          exact this
        have HD2 : Hid (∀ W, Below w5.heap.size w5 W → Calls Try.prog 62 #[.slice (some ⟨g, 0, none⟩) N cap, .string n] W fun e w' => RPost W (Dsk.cut l n) e w') := fun W hW => HDf.out W (Rg.chain hb5 hW)
        clear hl' HP HD HDf hle hcl hget
        generalize Dsk.cut l n = cl at *
        obtain ⟨CN, hCN⟩ : ∃ CN, CN = cl.length := ⟨_, rfl⟩
        rw [← hCN] at HP2
        replace hCN := Rg.hid hCN
        have hS5 : Hid (∀ W, Below w5.heap.size w5 W → W.cell? ⟨B, 0, none⟩ = some (.int .i64 3) ∧ W.cell? ⟨B, 1, none⟩ = some (.string n) ∧ W.cell? ⟨B, 2, none⟩ = some (.string t)) := fun W hW => ⟨(hk5.out W hW).cell 0, (hk5.out W hW).cell 1, (hk5.out W hW).cell 2⟩
        have HD3 : Hid (∀ W, Below w5.heap.size w5 W → Calls Try.prog 62 #[.slice (some ⟨g, 0, none⟩) N cap, .string n] W fun e w' => ∃ g' cap', e = .returned (.slice (some ⟨g', 0, none⟩) CN cap') ∧ fileE.Row w' (some ⟨g', 0, none⟩) cl ∧ CN ≤ cap' ∧ Below w5.heap.size w5 w' ∧ w'.cell? ⟨B, 0, none⟩ = some (.int .i64 3) ∧ w'.cell? ⟨B, 1, none⟩ = some (.string n) ∧ w'.cell? ⟨B, 2, none⟩ = some (.string t)) := fun W hW => (HD2.out W hW).mono fun e w' ⟨a1, a2, a3, a4, a5, a6⟩ => ⟨a1, a2, by rw [hCN.out]; exact a3, a4, by rw [hCN.out]; exact a5, Rg.chain hW a6, hS5.out _ (Rg.chain hW a6)⟩
        have HP3 : Hid (∀ W g' cap', Below w5.heap.size w5 W → fileE.Row W (some ⟨g', 0, none⟩) cl → CN ≤ cap' → Calls Try.prog 61 #[.slice (some ⟨g', 0, none⟩) CN cap', .agg #[.string t, .string y]] W fun e w' => ∃ g' cap', e = .returned (.slice (some ⟨g', 0, none⟩) l'.length cap') ∧ fileE.Row w' (some ⟨g', 0, none⟩) l' ∧ l'.length ≤ cap' ∧ Below w.heap.size w w' ∧ w'.cell? ⟨B, 0, none⟩ = some (.int .i64 3) ∧ w'.cell? ⟨B, 1, none⟩ = some (.string n) ∧ w'.cell? ⟨B, 2, none⟩ = some (.string t)) := fun W g' cap' hW h1 h2 => (HP2.out W g' cap' hW h1 h2).mono fun e w' ⟨a1, a2, a3, a4, a5, a6⟩ => ⟨a1, a2, a3, a4, a5, Rg.chain (Rg.chain hb5 hW) a6, hS5.out _ (Rg.chain hW a6)⟩
        clear HD2 HP2 hS5 hk5
        go_upto_region 13 with fail
        go_region_held3 (fun w' => w'.cell? ⟨B, 0, none⟩ = some (.int .i64 3) ∧ w'.cell? ⟨B, 1, none⟩ = some (.string n) ∧ w'.cell? ⟨B, 2, none⟩ = some (.string t)) (go_keep) (first
          | (go_at_call 62; refine (HD3.out _ ?_).mono ?_; (first | exact (Below.refl _ _).drew | exact Below.refl _ _); rintro e w6 ⟨g6, cap6, rfl, r6, c6, b6, z0, z1, z2⟩)
          | (go_at_call 61; refine (HP3.out _ _ _ b6 r6 c6).mono ?_; rintro e w9 ⟨g9, cap9, rfl, r9, c9, b9, y0, y1, y2⟩))
        all_goals
          go_wp2
          go_ret
          exact ⟨g9, cap9, rfl, r9, c9, b9⟩
    have d3 : (k == 3) = false := by simp [h3]
    by_cases h4 : k = 4
    · subst h4
      have HD2 : Hid (∀ W, Below w.heap.size w W → Calls Try.prog 62 #[.slice (some ⟨g, 0, none⟩) N cap, .string n] W fun e w' => RPost w l' e w') := fun W hW => by
        have := HD.out W hW
        rw [show Dsk.cut l n = l' by rw [← hl'.out]; rfl] at this; exact this
      clear hl' HP HD HDf
      go_wp2_with (go_at_call 62; refine (HD2.out _ hb5).mono ?_)
      rintro e w9 ⟨g9, cap9, rfl, r9, c9, b9⟩
      go_wp2
      go_ret
      exact ⟨g9, cap9, rfl, r9, c9, b9⟩
    have d4 : (k == 4) = false := by simp [h4]
    have hle : Dsk.after l ⟨k, n, t, d⟩ = l := by unfold Dsk.after; rw [if_neg h1, if_neg h2, if_neg h3, if_neg h4]
    have hpost : Hid (RPost w l' (.returned (.slice (some ⟨g, 0, none⟩) N cap)) w5) := ⟨g, cap, by rw [← hl'.out, hle, hN.out], by rw [← hl'.out, hle]; exact hrow.out.below hb5, by rw [← hl'.out, hle, ← hN.out]; exact hc, hb5⟩
    clear hl' HP HD HDf hle h1 h2 h3 h4
    go_wp2
    go_ret
    exact hpost.out
end Go.Proofs.Ytempiajepomajaa
