/-
  Layer 6: do, where a file that is there is changed.
-/
import Derived.Test.YtempiajepomajaaDk6
import Derived.Deep.RegionWith
namespace Go.Proofs.Ytempiajepomajaa
open Go.RowKit

theorem has_get {l : List Dsk.Fl} {n : ByteArray} (h : Dsk.has l n = true) : ∃ x, Dsk.get l n = some x := Option.isSome_iff_exists.1 h
theorem get_len {l : List Dsk.Fl} {n x : ByteArray} (h : Dsk.get l n = some x) : 0 < l.length := by
  obtain ⟨hp, _⟩ := Dsk.get_some_iff.1 h; omega

set_option maxHeartbeats 2000000 in
theorem do_remove (base g cap : Nat) (l : List Dsk.Fl) (rest : List Value) (n t d : ByteArray) (w : World) (hs : Dsk.Srt l) (hn : l.length ≤ 1000000000) (hB : base ≤ w.heap.size) (h : fileE.Own base w g cap l rest) (hh : Dsk.has l n = true) :
    Calls Try.prog 60 #[.slice (some ⟨g, 0, none⟩) l.length cap, .agg #[.int .i64 4, .string n, .string t, .string d]] w fun e w' => PutPost base w (Dsk.after l ⟨4, n, t, d⟩) e w' := by
  obtain ⟨x, hg⟩ := has_get hh
  obtain ⟨hp, hpn, hpd⟩ := Dsk.get_some_iff.1 hg
  have ha : Dsk.after l ⟨4, n, t, d⟩ = l.take (Dsk.pos l n) ++ l.drop (Dsk.pos l n + 1) := Dsk.cut_there l n (by rw [hg]; simp)
  rw [ha]
  have HF : Hid (∀ W, Below w.heap.size w W → Calls Try.prog 40 #[.slice (some ⟨g, 0, none⟩) l.length cap, .string n] W fun e w' => e = .returned (.tuple #[.int .i64 (Dsk.pos l n), .bool (Dsk.has l n)]) ∧ Below W.heap.size W w') := fun W hW => find_any _ cap l n W hs hn (h.below hW).toRow
  have HL : Hid (∀ W, Below w.heap.size w W → Calls Try.prog 67 #[.slice (some ⟨g, 0, none⟩) l.length cap, .int .i64 (Dsk.pos l n)] W fun e w' => PutPost base w (l.take (Dsk.pos l n) ++ l.drop (Dsk.pos l n + 1)) e w') := fun W hW => (leave_any base g cap l rest (Dsk.pos l n) W hn hp (h.below hW)).mono fun e w' ⟨r, h1, h2, h3⟩ => by
    refine ⟨_, h1, .inr ⟨g, _, r, ?_, h2⟩, (hW.mono hB).trans (h3.bel h2.new)⟩
    rw [show (l.take (Dsk.pos l n) ++ l.drop (Dsk.pos l n + 1)).length = l.length - 1 by simp; omega]
  rw [hh] at HF
  generalize l.take (Dsk.pos l n) ++ l.drop (Dsk.pos l n + 1) = l' at *
  clear h hs hg ha hpn hpd hh
  generalize l.length = N at *
  generalize Dsk.pos l n = p at *
  go_enter Try.func60, Try.ntmps60
  go_wp2_with (go_at_call 40; refine (HF.out _ (Rg.al1 _ _)).mono ?_)
  rintro e w1 ⟨rfl, hb⟩
  have c0 : w1.cell? ⟨w.heap.size, 0, none⟩ = some (.int .i64 4) := by rw [hb.cell (p := ⟨w.heap.size, 0, none⟩) (by simp)]; simp
  have hbw := Rg.chain (Rg.al1 w (.cells #[.int .i64 4, .string n, .string t, .string d] 56)) hb
  go_wp2_with (go_at_call 67; refine (HL.out _ hbw).mono ?_)
  rintro e w2 ⟨v, rfl, h2, h3⟩
  go_wp2
  go_ret
  exact ⟨v, rfl, h2, h3⟩

set_option maxHeartbeats 4000000 in
set_option maxRecDepth 100000 in
theorem do_append (base g cap : Nat) (l : List Dsk.Fl) (rest : List Value) (n t d : ByteArray) (w : World) (hs : Dsk.Srt l) (hn : l.length ≤ 1000000000) (hB : base ≤ w.heap.size) (h : fileE.Own base w g cap l rest) (hh : Dsk.has l n = true) (hu : Dsk.used l + d.size ≤ 1000000000000) :
    Calls Try.prog 60 #[.slice (some ⟨g, 0, none⟩) l.length cap, .agg #[.int .i64 2, .string n, .string t, .string d]] w fun e w' => PutPost base w (Dsk.after l ⟨2, n, t, d⟩) e w' := by
  obtain ⟨x, hg⟩ := has_get hh
  obtain ⟨hp, hpn, hpd⟩ := Dsk.get_some_iff.1 hg
  have hxu := Dsk.get_used hg
  have hgw := h.lt
  have ha : Dsk.after l ⟨2, n, t, d⟩ = l.set (Dsk.pos l n) ⟨n, x ++ d⟩ := by
    have e1 : Dsk.after l ⟨2, n, t, d⟩ = Dsk.put l ⟨n, (Dsk.get l n).getD ByteArray.empty ++ d⟩ := rfl
    rw [e1, hg]
    exact Dsk.put_there l ⟨n, x ++ d⟩ (by rw [hg]; simp)
  rw [ha]
  have HF : Hid (∀ W, Below w.heap.size w W → Calls Try.prog 40 #[.slice (some ⟨g, 0, none⟩) l.length cap, .string n] W fun e w' => e = .returned (.tuple #[.int .i64 (Dsk.pos l n), .bool (Dsk.has l n)]) ∧ Below W.heap.size W w') := fun W hW => find_any _ cap l n W hs hn (h.below hW).toRow
  have hfin : Hid (∀ W, Below w.heap.size w W → PutPost base w (l.set (Dsk.pos l n) ⟨n, x ++ d⟩) (.returned (.slice (some ⟨g, 0, none⟩) l.length cap)) (W.setCell ⟨g, Dsk.pos l n * 2 + 1, none⟩ (.string (x ++ d))).drew) := fun W hW => by
    have h5 := file_put1 (h.below hW) hp (x ++ d)
    rw [hpn] at h5
    exact ⟨_, rfl, .inr ⟨g, cap, rest, by rw [List.length_set], h5.drew⟩, ((hW.mono hB).setCell h.new _).drew⟩
  have hcell : Hid (∀ W, Below w.heap.size w W → W.cell? ⟨g, Dsk.pos l n * 2 + 1, none⟩ = some (.string x) ∧ W.frozen? ⟨g, Dsk.pos l n * 2 + 1, none⟩ = false) := fun W hW => by
    have q := (h.below hW).row.elem hp
    rw [Nat.zero_add] at q
    obtain ⟨q0, q1⟩ := file_at (show Rg.At W g (Dsk.pos l n * 2) (fileE.enc ⟨l[Dsk.pos l n].n, l[Dsk.pos l n].d⟩) from q)
    rw [hpd] at q1
    exact ⟨q1, (h.below hW).thaw _⟩
  rw [hh] at HF
  clear h hs hg ha hpn hpd hh
  generalize l.set (Dsk.pos l n) ⟨n, x ++ d⟩ = l' at *
  generalize l.length = N at *
  generalize Dsk.pos l n = p at *
  have e0 : (0 : Int) ≤ (p : Int) := by omega
  have e1 : (p : Int) < (N : Int) := by omega
  have e2 : ¬ (9223372036854775807 < x.size + d.size) := by omega
  have e3 : ((x.size : Int) + (d.size : Int)) ≤ 9223372036854775807 := by omega
  clear hxu hu
  go_enter Try.func60, Try.ntmps60
  go_wp2_with (go_at_call 40; refine (HF.out _ (Rg.al1 _ _)).mono ?_)
  rintro e w1 ⟨rfl, hb⟩
  have c0 : w1.cell? ⟨w.heap.size, 0, none⟩ = some (.int .i64 2) := by rw [hb.cell (p := ⟨w.heap.size, 0, none⟩) (by simp)]; simp
  have c3 : w1.cell? ⟨w.heap.size, 3, none⟩ = some (.string d) := by rw [hb.cell (p := ⟨w.heap.size, 3, none⟩) (by simp)]; simp
  have hbw := Rg.chain (Rg.al1 w (.cells #[.int .i64 2, .string n, .string t, .string d] 56)) hb
  obtain ⟨q0, q1⟩ := hcell.out w1 hbw
  have hpost := Rg.hid (hfin.out w1 hbw)
  clear hfin hcell HF
  go_wp2
  go_big_region
  go_wp2
  go_ret
  exact hpost.out

theorem ne_bytes {a b : ByteArray} (h : a ≠ b) : (a.toList == b.toList) = false := by
  rw [tl_eq, tl_eq]
  exact beq_eq_false_iff_ne.2 fun e => h (Dsk.ba_ext e)

set_option maxHeartbeats 4000000 in
set_option maxRecDepth 100000 in
theorem do_rename (base g cap : Nat) (l : List Dsk.Fl) (rest : List Value) (n t d : ByteArray) (w : World) (hs : Dsk.Srt l) (hn : l.length ≤ 1000000000) (hB : base ≤ w.heap.size) (h : fileE.Own base w g cap l rest) (hh : Dsk.has l n = true) (ht : t ≠ n) :
    Calls Try.prog 60 #[.slice (some ⟨g, 0, none⟩) l.length cap, .agg #[.int .i64 3, .string n, .string t, .string d]] w fun e w' => PutPost base w (Dsk.after l ⟨3, n, t, d⟩) e w' := by
  obtain ⟨x, hg⟩ := has_get hh
  obtain ⟨hp, hpn, hpd⟩ := Dsk.get_some_iff.1 hg
  have hgw := h.lt
  have hcut : Dsk.cut l n = l.take (Dsk.pos l n) ++ l.drop (Dsk.pos l n + 1) := Dsk.cut_there l n (by rw [hg]; simp)
  have ha : Dsk.after l ⟨3, n, t, d⟩ = Dsk.put (Dsk.cut l n) ⟨t, x⟩ := by
    have e1 : Dsk.after l ⟨3, n, t, d⟩ = (match Dsk.get l n with | none => l | some d => if n = t then l else Dsk.put (Dsk.cut l n) ⟨t, d⟩) := rfl
    rw [e1, hg]
    exact if_neg (Ne.symm ht)
  rw [ha]
  have HF : Hid (∀ W, Below w.heap.size w W → Calls Try.prog 40 #[.slice (some ⟨g, 0, none⟩) l.length cap, .string n] W fun e w' => e = .returned (.tuple #[.int .i64 (Dsk.pos l n), .bool (Dsk.has l n)]) ∧ Below W.heap.size W w') := fun W hW => find_any _ cap l n W hs hn (h.below hW).toRow
  have hcell : Hid (∀ W, Below w.heap.size w W → W.cell? ⟨g, Dsk.pos l n * 2 + 1, none⟩ = some (.string x)) := fun W hW => by
    have q := (h.below hW).row.elem hp
    rw [Nat.zero_add] at q
    obtain ⟨q0, q1⟩ := file_at (show Rg.At W g (Dsk.pos l n * 2) (fileE.enc ⟨l[Dsk.pos l n].n, l[Dsk.pos l n].d⟩) from q)
    rw [hpd] at q1
    exact q1
  have hcl : (Dsk.cut l n).length = l.length - 1 := by rw [hcut]; simp; omega
  have HL : Hid (∀ W, Below w.heap.size w W → ∀ M, M ≠ g → W.cell? ⟨M, 0, none⟩ = some (.string t) → W.cell? ⟨M, 1, none⟩ = some (.string x) → Calls Try.prog 67 #[.slice (some ⟨g, 0, none⟩) l.length cap, .int .i64 (Dsk.pos l n)] W fun e w' => e = .returned (.slice (some ⟨g, 0, none⟩) (l.length - 1) (l.length - 1)) ∧ FOwn base w' (.slice (some ⟨g, 0, none⟩) (l.length - 1) (l.length - 1)) (Dsk.cut l n) ∧ Below base w w' ∧ w'.cell? ⟨M, 0, none⟩ = some (.string t) ∧ w'.cell? ⟨M, 1, none⟩ = some (.string x)) := fun W hW M hM m0 m1 => (leave_any base g cap l rest (Dsk.pos l n) W hn hp (h.below hW)).mono fun e w' ⟨r, h1, h2, h3⟩ => by
    refine ⟨h1, .inr ⟨g, _, r, ?_, by rw [hcut]; exact h2⟩, (hW.mono hB).trans (h3.bel h2.new), ?_, ?_⟩
    · rw [hcl]
    · rw [h3.cell hM]; exact m0
    · rw [h3.cell hM]; exact m1
  have HP : Hid (∀ W, FOwn base W (.slice (some ⟨g, 0, none⟩) (l.length - 1) (l.length - 1)) (Dsk.cut l n) → Below base w W → Calls Try.prog 66 #[.slice (some ⟨g, 0, none⟩) (l.length - 1) (l.length - 1), .agg #[.string t, .string x]] W fun e w' => PutPost base w (Dsk.put (Dsk.cut l n) ⟨t, x⟩) e w') := fun W hW hW' => (put_any base _ (Dsk.cut l n) t x W (Dsk.cut_srt n hs) (by omega) (Nat.le_trans hB hW'.size) hW).mono fun e w' ⟨v, h1, h2, h3⟩ => ⟨v, h1, h2, hW'.trans h3⟩
  have d5 := ne_bytes ht
  rw [hh] at HF
  clear h hs hg ha hpn hpd hh hcut hcl
  generalize Dsk.put (Dsk.cut l n) ⟨t, x⟩ = l' at *
  generalize Dsk.cut l n = lc at *
  obtain ⟨N, hN⟩ : ∃ N, N = l.length := ⟨_, rfl⟩
  rw [← hN] at HF HL HP hn hp ⊢
  obtain ⟨N1, hN1⟩ : ∃ N1, N1 = N - 1 := ⟨_, rfl⟩
  rw [← hN1] at HL HP
  clear hN hN1
  generalize Dsk.pos l n = p at *
  have e0 : (0 : Int) ≤ (p : Int) := by omega
  have e1 : (p : Int) < (N : Int) := by omega
  go_enter Try.func60, Try.ntmps60
  go_wp2_with (go_at_call 40; refine (HF.out _ (Rg.al1 _ _)).mono ?_)
  rintro e w1 ⟨rfl, hb⟩
  have c0 : w1.cell? ⟨w.heap.size, 0, none⟩ = some (.int .i64 3) := by rw [hb.cell (p := ⟨w.heap.size, 0, none⟩) (by simp)]; simp
  have c1 : w1.cell? ⟨w.heap.size, 1, none⟩ = some (.string n) := by rw [hb.cell (p := ⟨w.heap.size, 1, none⟩) (by simp)]; simp
  have c2 : w1.cell? ⟨w.heap.size, 2, none⟩ = some (.string t) := by rw [hb.cell (p := ⟨w.heap.size, 2, none⟩) (by simp)]; simp
  have hbw := Rg.chain (Rg.al1 w (.cells #[.int .i64 3, .string n, .string t, .string d] 56)) hb
  have q0 := hcell.out w1 hbw
  have hz : w.heap.size < w1.heap.size := by have := hb.size; simp at this; omega
  have hz2 : g < w1.heap.size := by omega
  have nn0 := World.new_ne w1 _ q0
  have nn1 := World.new_ne w1 _ c2
  clear hcell HF
  go_wp2
  go_big_region
  have m0 : (w1.alloc (.cells #[.string t, .string x] 53)).drew.cell? ⟨w1.heap.size, 0, none⟩ = some (.string t) := by simp
  have m1 : (w1.alloc (.cells #[.string t, .string x] 53)).drew.cell? ⟨w1.heap.size, 1, none⟩ = some (.string x) := by simp
  have hb2 : Below w.heap.size w (w1.alloc (.cells #[.string t, .string x] 53)).drew := (hbw.alloc hbw.size _).drew
  have hMg : w1.heap.size ≠ g := by omega
  clear nn0 nn1 q0 c0 c1 c2 hbw hb hz
  generalize (w1.alloc (.cells #[.string t, .string x] 53)).drew = w2 at *
  generalize w1.heap.size = M at *
  go_wp2
  go_region_with (first
    | (go_at_call 67; refine (HL.out _ ?_ M hMg ?_ ?_).mono ?_; (first | exact hb2 | exact hb2.drew); (first | exact m0 | assumption); (first | exact m1 | assumption); rintro e w3 ⟨rfl, ho, hb3, r0, r1⟩)
    | (go_at_call 66; refine (HP.out _ ?_ ?_).mono ?_; (first | exact ho | exact ho); (first | exact hb3 | exact hb3.drew); rintro e w4 ⟨v, rfl, h2, h3⟩))
  all_goals
    go_wp2
    go_ret
    exact ⟨v, rfl, h2, h3⟩

/-- do: the files behind an operation -/
theorem do_any (base : Nat) (v : Value) (l : List Dsk.Fl) (o : Dsk.Dop) (w : World) (hs : Dsk.Srt l) (hn : l.length ≤ 1000000000) (hu : Dsk.used l + o.d.size ≤ 1000000000000) (hB : base ≤ w.heap.size) (h : FOwn base w v l) :
    Calls Try.prog 60 #[v, .agg #[.int .i64 o.k, .string o.n, .string o.t, .string o.d]] w fun e w' => PutPost base w (Dsk.after l o) e w' := by
  obtain ⟨k, n, t, d⟩ := o
  dsimp only at *
  by_cases k1 : k = 1
  · exact do_write base v l k n t d w hs hn hB h k1
  by_cases k2 : k = 2
  · cases hh : Dsk.has l n
    · exact do_append_new base v l k n t d w hs hn hB h k2 hh
    · rcases h with ⟨_, rfl⟩ | ⟨g, cap, rest, rfl, h⟩
      · cases hh
      · subst k2; exact do_append base g cap l rest n t d w hs hn hB h hh hu
  by_cases k3 : k = 3
  · cases hh : Dsk.has l n
    · exact do_rename_none base v l k n t d w hs hn hB h k3 hh
    · by_cases ht : t = n
      · exact do_rename_same base v l k n t d w hs hn hB h k3 ht
      · rcases h with ⟨_, rfl⟩ | ⟨g, cap, rest, rfl, h⟩
        · cases hh
        · subst k3; exact do_rename base g cap l rest n t d w hs hn hB h hh ht
  by_cases k4 : k = 4
  · cases hh : Dsk.has l n
    · exact do_remove_none base v l k n t d w hs hn hB h k4 hh
    · rcases h with ⟨_, rfl⟩ | ⟨g, cap, rest, rfl, h⟩
      · cases hh
      · subst k4; exact do_remove base g cap l rest n t d w hs hn hB h hh
  exact do_else base v l k n t d w hs hn hB h k1 k2 k3 k4
end Go.Proofs.Ytempiajepomajaa
