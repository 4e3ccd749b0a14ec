/-
  Layer 6: do, where nothing is changed in its place.
-/
import Derived.Test.YtempiajepomajaaDk5
namespace Go.Proofs.Ytempiajepomajaa
open Go.RowKit

theorem FOwn.shape {base : Nat} {W : World} {v : Value} {l : List Dsk.Fl} (h : FOwn base W v l) : ∃ a c, v = .slice a l.length c ∧ fileE.Row W a l := by
  rcases h with ⟨rfl, rfl⟩ | ⟨g, cap, rest, rfl, h⟩
  · exact ⟨none, 0, rfl, .inl ⟨rfl, rfl⟩⟩
  · exact ⟨_, cap, rfl, h.toRow⟩

set_option maxHeartbeats 2000000 in
theorem do_write (base : Nat) (v : Value) (l : List Dsk.Fl) (k : Int) (n t d : ByteArray) (w : World) (hs : Dsk.Srt l) (hn : l.length ≤ 1000000000) (hB : base ≤ w.heap.size) (h : FOwn base w v l) (hk : k = 1) :
    Calls Try.prog 60 #[v, .agg #[.int .i64 k, .string n, .string t, .string d]] w fun e w' => PutPost base w (Dsk.after l ⟨k, n, t, d⟩) e w' := by
  have ha : Dsk.after l ⟨k, n, t, d⟩ = Dsk.put l ⟨n, d⟩ := by unfold Dsk.after; rw [if_pos hk]
  rw [ha]
  obtain ⟨a, c, rfl, hrow⟩ := h.shape
  have HF : Hid (∀ W, Below w.heap.size w W → Calls Try.prog 40 #[.slice a l.length c, .string n] W fun e w' => e = .returned (.tuple #[.int .i64 (Dsk.pos l n), .bool (Dsk.has l n)]) ∧ Below W.heap.size W w') := fun W hW => find_any a c l n W hs hn (hrow.below hW)
  have HP : Hid (∀ W, Below w.heap.size w W → Calls Try.prog 66 #[.slice a l.length c, .agg #[.string n, .string d]] W fun e w' => PutPost base w (Dsk.put l ⟨n, d⟩) e w') := fun W hW => (put_any base _ l n d W hs hn (Nat.le_trans hB hW.size) (h.below hW)).mono fun e w' ⟨v, h1, h2, h3⟩ => ⟨v, h1, h2, (hW.mono hB).trans h3⟩
  have HS : Hid (∀ W, Below w.heap.size w W → PutPost base w l (.returned (.slice a l.length c)) W) := fun W hW => ⟨_, rfl, h.below hW, hW.mono hB⟩
  generalize Dsk.has l n = b at *
  generalize l.length = N at *
  generalize Dsk.pos l n = p at *
  generalize Dsk.put l ⟨n, d⟩ = l' at *
  clear h hs hrow ha HS
  subst hk
  go_enter Try.func60, Try.ntmps60
  go_wp2_with (go_at_call 40; refine (HF.out _ (Rg.al1 _ _)).mono ?_)
  rintro e w1 ⟨rfl, hb⟩
  have c0 : w1.cell? ⟨w.heap.size, 0, none⟩ = some (.int .i64 1) := by rw [hb.cell (p := ⟨w.heap.size, 0, none⟩) (by simp)]; simp
  have c1 : w1.cell? ⟨w.heap.size, 1, none⟩ = some (.string n) := by rw [hb.cell (p := ⟨w.heap.size, 1, none⟩) (by simp)]; simp
  have c2 : w1.cell? ⟨w.heap.size, 2, none⟩ = some (.string t) := by rw [hb.cell (p := ⟨w.heap.size, 2, none⟩) (by simp)]; simp
  have c3 : w1.cell? ⟨w.heap.size, 3, none⟩ = some (.string d) := by rw [hb.cell (p := ⟨w.heap.size, 3, none⟩) (by simp)]; simp
  have hbw := Rg.chain (Rg.al1 w (.cells #[.int .i64 1, .string n, .string t, .string d] 56)) hb
  go_wp2_with (go_at_call 66; refine (HP.out _ hbw).mono ?_)
  rintro e w2 ⟨v, rfl, h2, h3⟩
  go_wp2
  go_ret
  exact ⟨v, rfl, h2, h3⟩

set_option maxHeartbeats 2000000 in
theorem do_append_new (base : Nat) (v : Value) (l : List Dsk.Fl) (k : Int) (n t d : ByteArray) (w : World) (hs : Dsk.Srt l) (hn : l.length ≤ 1000000000) (hB : base ≤ w.heap.size) (h : FOwn base w v l) (hk : k = 2) (hh : Dsk.has l n = false) :
    Calls Try.prog 60 #[v, .agg #[.int .i64 k, .string n, .string t, .string d]] w fun e w' => PutPost base w (Dsk.after l ⟨k, n, t, d⟩) e w' := by
  have hg : Dsk.get l n = none := by unfold Dsk.has at hh; cases e : Dsk.get l n; (· rfl); rw [e] at hh; cases hh
  have ha : Dsk.after l ⟨k, n, t, d⟩ = Dsk.put l ⟨n, d⟩ := by
    unfold Dsk.after
    rw [if_neg (by show ¬ k = 1; omega), if_pos hk]
    show Dsk.put l ⟨n, (Dsk.get l n).getD ByteArray.empty ++ d⟩ = _
    rw [hg]; simp
  rw [ha]
  obtain ⟨a, c, rfl, hrow⟩ := h.shape
  have HF : Hid (∀ W, Below w.heap.size w W → Calls Try.prog 40 #[.slice a l.length c, .string n] W fun e w' => e = .returned (.tuple #[.int .i64 (Dsk.pos l n), .bool (Dsk.has l n)]) ∧ Below W.heap.size W w') := fun W hW => find_any a c l n W hs hn (hrow.below hW)
  have HP : Hid (∀ W, Below w.heap.size w W → Calls Try.prog 66 #[.slice a l.length c, .agg #[.string n, .string d]] W fun e w' => PutPost base w (Dsk.put l ⟨n, d⟩) e w') := fun W hW => (put_any base _ l n d W hs hn (Nat.le_trans hB hW.size) (h.below hW)).mono fun e w' ⟨v, h1, h2, h3⟩ => ⟨v, h1, h2, (hW.mono hB).trans h3⟩
  have HS : Hid (∀ W, Below w.heap.size w W → PutPost base w l (.returned (.slice a l.length c)) W) := fun W hW => ⟨_, rfl, h.below hW, hW.mono hB⟩
  rw [hh] at HF
  generalize l.length = N at *
  generalize Dsk.pos l n = p at *
  generalize Dsk.put l ⟨n, d⟩ = l' at *
  clear h hs hrow ha HS hh hg
  subst hk
  go_enter Try.func60, Try.ntmps60
  go_wp2_with (go_at_call 40; refine (HF.out _ (Rg.al1 _ _)).mono ?_)
  rintro e w1 ⟨rfl, hb⟩
  have c0 : w1.cell? ⟨w.heap.size, 0, none⟩ = some (.int .i64 2) := by rw [hb.cell (p := ⟨w.heap.size, 0, none⟩) (by simp)]; simp
  have c1 : w1.cell? ⟨w.heap.size, 1, none⟩ = some (.string n) := by rw [hb.cell (p := ⟨w.heap.size, 1, none⟩) (by simp)]; simp
  have c2 : w1.cell? ⟨w.heap.size, 2, none⟩ = some (.string t) := by rw [hb.cell (p := ⟨w.heap.size, 2, none⟩) (by simp)]; simp
  have c3 : w1.cell? ⟨w.heap.size, 3, none⟩ = some (.string d) := by rw [hb.cell (p := ⟨w.heap.size, 3, none⟩) (by simp)]; simp
  have hbw := Rg.chain (Rg.al1 w (.cells #[.int .i64 2, .string n, .string t, .string d] 56)) hb
  go_wp2_with (go_at_call 66; refine (HP.out _ hbw).mono ?_)
  rintro e w2 ⟨v, rfl, h2, h3⟩
  go_wp2
  go_ret
  exact ⟨v, rfl, h2, h3⟩

set_option maxHeartbeats 2000000 in
theorem do_rename_none (base : Nat) (v : Value) (l : List Dsk.Fl) (k : Int) (n t d : ByteArray) (w : World) (hs : Dsk.Srt l) (hn : l.length ≤ 1000000000) (hB : base ≤ w.heap.size) (h : FOwn base w v l) (hk : k = 3) (hh : Dsk.has l n = false) :
    Calls Try.prog 60 #[v, .agg #[.int .i64 k, .string n, .string t, .string d]] w fun e w' => PutPost base w (Dsk.after l ⟨k, n, t, d⟩) e w' := by
  have hg : Dsk.get l n = none := by unfold Dsk.has at hh; cases e : Dsk.get l n; (· rfl); rw [e] at hh; cases hh
  have ha : Dsk.after l ⟨k, n, t, d⟩ = l := by
    unfold Dsk.after
    rw [if_neg (by show ¬ k = 1; omega), if_neg (by show ¬ k = 2; omega), if_pos hk]
    show (match Dsk.get l n with | none => l | some d => if n = t then l else Dsk.put (Dsk.cut l n) ⟨t, d⟩) = l
    rw [hg]
  rw [ha]
  obtain ⟨a, c, rfl, hrow⟩ := h.shape
  have HF : Hid (∀ W, Below w.heap.size w W → Calls Try.prog 40 #[.slice a l.length c, .string n] W fun e w' => e = .returned (.tuple #[.int .i64 (Dsk.pos l n), .bool (Dsk.has l n)]) ∧ Below W.heap.size W w') := fun W hW => find_any a c l n W hs hn (hrow.below hW)
  have HP : Hid (∀ W, Below w.heap.size w W → Calls Try.prog 66 #[.slice a l.length c, .agg #[.string n, .string d]] W fun e w' => PutPost base w (Dsk.put l ⟨n, d⟩) e w') := fun W hW => (put_any base _ l n d W hs hn (Nat.le_trans hB hW.size) (h.below hW)).mono fun e w' ⟨v, h1, h2, h3⟩ => ⟨v, h1, h2, (hW.mono hB).trans h3⟩
  have HS : Hid (∀ W, Below w.heap.size w W → PutPost base w l (.returned (.slice a l.length c)) W) := fun W hW => ⟨_, rfl, h.below hW, hW.mono hB⟩
  rw [hh] at HF
  generalize l.length = N at *
  generalize Dsk.pos l n = p at *
  clear h hs hrow ha HP
  clear hh hg
  subst hk
  go_enter Try.func60, Try.ntmps60
  go_wp2_with (go_at_call 40; refine (HF.out _ (Rg.al1 _ _)).mono ?_)
  rintro e w1 ⟨rfl, hb⟩
  have c0 : w1.cell? ⟨w.heap.size, 0, none⟩ = some (.int .i64 3) := by rw [hb.cell (p := ⟨w.heap.size, 0, none⟩) (by simp)]; simp
  have c1 : w1.cell? ⟨w.heap.size, 1, none⟩ = some (.string n) := by rw [hb.cell (p := ⟨w.heap.size, 1, none⟩) (by simp)]; simp
  have c2 : w1.cell? ⟨w.heap.size, 2, none⟩ = some (.string t) := by rw [hb.cell (p := ⟨w.heap.size, 2, none⟩) (by simp)]; simp
  have c3 : w1.cell? ⟨w.heap.size, 3, none⟩ = some (.string d) := by rw [hb.cell (p := ⟨w.heap.size, 3, none⟩) (by simp)]; simp
  have hbw := Rg.chain (Rg.al1 w (.cells #[.int .i64 3, .string n, .string t, .string d] 56)) hb
  have hS := Rg.hid (HS.out w1 hbw)
  go_wp2
  go_ret
  exact hS.out

set_option maxHeartbeats 2000000 in
theorem do_rename_same (base : Nat) (v : Value) (l : List Dsk.Fl) (k : Int) (n t d : ByteArray) (w : World) (hs : Dsk.Srt l) (hn : l.length ≤ 1000000000) (hB : base ≤ w.heap.size) (h : FOwn base w v l) (hk : k = 3) (ht : t = n) :
    Calls Try.prog 60 #[v, .agg #[.int .i64 k, .string n, .string t, .string d]] w fun e w' => PutPost base w (Dsk.after l ⟨k, n, t, d⟩) e w' := by
  have ha : Dsk.after l ⟨k, n, t, d⟩ = l := by
    unfold Dsk.after
    rw [if_neg (by show ¬ k = 1; omega), if_neg (by show ¬ k = 2; omega), if_pos hk]
    show (match Dsk.get l n with | none => l | some d => if n = t then l else Dsk.put (Dsk.cut l n) ⟨t, d⟩) = l
    split
    · rfl
    · exact if_pos ht.symm
  rw [ha]
  obtain ⟨a, c, rfl, hrow⟩ := h.shape
  have HF : Hid (∀ W, Below w.heap.size w W → Calls Try.prog 40 #[.slice a l.length c, .string n] W fun e w' => e = .returned (.tuple #[.int .i64 (Dsk.pos l n), .bool (Dsk.has l n)]) ∧ Below W.heap.size W w') := fun W hW => find_any a c l n W hs hn (hrow.below hW)
  have HP : Hid (∀ W, Below w.heap.size w W → Calls Try.prog 66 #[.slice a l.length c, .agg #[.string n, .string d]] W fun e w' => PutPost base w (Dsk.put l ⟨n, d⟩) e w') := fun W hW => (put_any base _ l n d W hs hn (Nat.le_trans hB hW.size) (h.below hW)).mono fun e w' ⟨v, h1, h2, h3⟩ => ⟨v, h1, h2, (hW.mono hB).trans h3⟩
  have HS : Hid (∀ W, Below w.heap.size w W → PutPost base w l (.returned (.slice a l.length c)) W) := fun W hW => ⟨_, rfl, h.below hW, hW.mono hB⟩
  generalize l.length = N at *
  generalize Dsk.pos l n = p at *
  clear h hs hrow ha HP
  subst hk
  subst ht
  cases hh : Dsk.has l t
  all_goals
    rw [hh] at HF
    clear hh
    go_enter Try.func60, Try.ntmps60
    go_wp2_with (go_at_call 40; refine (HF.out _ (Rg.al1 _ _)).mono ?_)
    rintro e w1 ⟨rfl, hb⟩
    have c0 : w1.cell? ⟨w.heap.size, 0, none⟩ = some (.int .i64 3) := by rw [hb.cell (p := ⟨w.heap.size, 0, none⟩) (by simp)]; simp
    have c1 : w1.cell? ⟨w.heap.size, 1, none⟩ = some (.string t) := by rw [hb.cell (p := ⟨w.heap.size, 1, none⟩) (by simp)]; simp
    have c2 : w1.cell? ⟨w.heap.size, 2, none⟩ = some (.string t) := by rw [hb.cell (p := ⟨w.heap.size, 2, none⟩) (by simp)]; simp
    have c3 : w1.cell? ⟨w.heap.size, 3, none⟩ = some (.string d) := by rw [hb.cell (p := ⟨w.heap.size, 3, none⟩) (by simp)]; simp
    have hbw := Rg.chain (Rg.al1 w (.cells #[.int .i64 3, .string t, .string t, .string d] 56)) hb
    have hS := Rg.hid (HS.out w1 hbw)
    go_wp2
    go_ret
    exact hS.out

set_option maxHeartbeats 2000000 in
theorem do_remove_none (base : Nat) (v : Value) (l : List Dsk.Fl) (k : Int) (n t d : ByteArray) (w : World) (hs : Dsk.Srt l) (hn : l.length ≤ 1000000000) (hB : base ≤ w.heap.size) (h : FOwn base w v l) (hk : k = 4) (hh : Dsk.has l n = false) :
    Calls Try.prog 60 #[v, .agg #[.int .i64 k, .string n, .string t, .string d]] w fun e w' => PutPost base w (Dsk.after l ⟨k, n, t, d⟩) e w' := by
  have hg : Dsk.get l n = none := by unfold Dsk.has at hh; cases e : Dsk.get l n; (· rfl); rw [e] at hh; cases hh
  have ha : Dsk.after l ⟨k, n, t, d⟩ = l := by
    unfold Dsk.after
    rw [if_neg (by show ¬ k = 1; omega), if_neg (by show ¬ k = 2; omega), if_neg (by show ¬ k = 3; omega), if_pos hk]
    exact Dsk.cut_none l n hg
  rw [ha]
  obtain ⟨a, c, rfl, hrow⟩ := h.shape
  have HF : Hid (∀ W, Below w.heap.size w W → Calls Try.prog 40 #[.slice a l.length c, .string n] W fun e w' => e = .returned (.tuple #[.int .i64 (Dsk.pos l n), .bool (Dsk.has l n)]) ∧ Below W.heap.size W w') := fun W hW => find_any a c l n W hs hn (hrow.below hW)
  have HP : Hid (∀ W, Below w.heap.size w W → Calls Try.prog 66 #[.slice a l.length c, .agg #[.string n, .string d]] W fun e w' => PutPost base w (Dsk.put l ⟨n, d⟩) e w') := fun W hW => (put_any base _ l n d W hs hn (Nat.le_trans hB hW.size) (h.below hW)).mono fun e w' ⟨v, h1, h2, h3⟩ => ⟨v, h1, h2, (hW.mono hB).trans h3⟩
  have HS : Hid (∀ W, Below w.heap.size w W → PutPost base w l (.returned (.slice a l.length c)) W) := fun W hW => ⟨_, rfl, h.below hW, hW.mono hB⟩
  rw [hh] at HF
  generalize l.length = N at *
  generalize Dsk.pos l n = p at *
  clear h hs hrow ha HP
  clear hh hg
  subst hk
  go_enter Try.func60, Try.ntmps60
  go_wp2_with (go_at_call 40; refine (HF.out _ (Rg.al1 _ _)).mono ?_)
  rintro e w1 ⟨rfl, hb⟩
  have c0 : w1.cell? ⟨w.heap.size, 0, none⟩ = some (.int .i64 4) := by rw [hb.cell (p := ⟨w.heap.size, 0, none⟩) (by simp)]; simp
  have c1 : w1.cell? ⟨w.heap.size, 1, none⟩ = some (.string n) := by rw [hb.cell (p := ⟨w.heap.size, 1, none⟩) (by simp)]; simp
  have c2 : w1.cell? ⟨w.heap.size, 2, none⟩ = some (.string t) := by rw [hb.cell (p := ⟨w.heap.size, 2, none⟩) (by simp)]; simp
  have c3 : w1.cell? ⟨w.heap.size, 3, none⟩ = some (.string d) := by rw [hb.cell (p := ⟨w.heap.size, 3, none⟩) (by simp)]; simp
  have hbw := Rg.chain (Rg.al1 w (.cells #[.int .i64 4, .string n, .string t, .string d] 56)) hb
  have hS := Rg.hid (HS.out w1 hbw)
  go_wp2
  go_ret
  exact hS.out

set_option maxHeartbeats 2000000 in
theorem do_else (base : Nat) (v : Value) (l : List Dsk.Fl) (k : Int) (n t d : ByteArray) (w : World) (hs : Dsk.Srt l) (hn : l.length ≤ 1000000000) (hB : base ≤ w.heap.size) (h : FOwn base w v l) (k1 : k ≠ 1) (k2 : k ≠ 2) (k3 : k ≠ 3) (k4 : k ≠ 4) :
    Calls Try.prog 60 #[v, .agg #[.int .i64 k, .string n, .string t, .string d]] w fun e w' => PutPost base w (Dsk.after l ⟨k, n, t, d⟩) e w' := by
  have ha : Dsk.after l ⟨k, n, t, d⟩ = l := by
    unfold Dsk.after
    rw [if_neg k1, if_neg k2, if_neg k3, if_neg k4]
  have d1 : (k == 1) = false := by simp [k1]
  have d2 : (k == 2) = false := by simp [k2]
  have d3 : (k == 3) = false := by simp [k3]
  have d4 : (k == 4) = false := by simp [k4]
  rw [ha]
  obtain ⟨a, c, rfl, hrow⟩ := h.shape
  have HF : Hid (∀ W, Below w.heap.size w W → Calls Try.prog 40 #[.slice a l.length c, .string n] W fun e w' => e = .returned (.tuple #[.int .i64 (Dsk.pos l n), .bool (Dsk.has l n)]) ∧ Below W.heap.size W w') := fun W hW => find_any a c l n W hs hn (hrow.below hW)
  have HP : Hid (∀ W, Below w.heap.size w W → Calls Try.prog 66 #[.slice a l.length c, .agg #[.string n, .string d]] W fun e w' => PutPost base w (Dsk.put l ⟨n, d⟩) e w') := fun W hW => (put_any base _ l n d W hs hn (Nat.le_trans hB hW.size) (h.below hW)).mono fun e w' ⟨v, h1, h2, h3⟩ => ⟨v, h1, h2, (hW.mono hB).trans h3⟩
  have HS : Hid (∀ W, Below w.heap.size w W → PutPost base w l (.returned (.slice a l.length c)) W) := fun W hW => ⟨_, rfl, h.below hW, hW.mono hB⟩
  generalize Dsk.has l n = b at *
  generalize l.length = N at *
  generalize Dsk.pos l n = p at *
  clear h hs hrow ha HP
  go_enter Try.func60, Try.ntmps60
  go_wp2_with (go_at_call 40; refine (HF.out _ (Rg.al1 _ _)).mono ?_)
  rintro e w1 ⟨rfl, hb⟩
  have c0 : w1.cell? ⟨w.heap.size, 0, none⟩ = some (.int .i64 k) := by rw [hb.cell (p := ⟨w.heap.size, 0, none⟩) (by simp)]; simp
  have c1 : w1.cell? ⟨w.heap.size, 1, none⟩ = some (.string n) := by rw [hb.cell (p := ⟨w.heap.size, 1, none⟩) (by simp)]; simp
  have c2 : w1.cell? ⟨w.heap.size, 2, none⟩ = some (.string t) := by rw [hb.cell (p := ⟨w.heap.size, 2, none⟩) (by simp)]; simp
  have c3 : w1.cell? ⟨w.heap.size, 3, none⟩ = some (.string d) := by rw [hb.cell (p := ⟨w.heap.size, 3, none⟩) (by simp)]; simp
  have hbw := Rg.chain (Rg.al1 w (.cells #[.int .i64 k, .string n, .string t, .string d] 56)) hb
  have hS := Rg.hid (HS.out w1 hbw)
  go_wp2
  go_ret
  exact hS.out
end Go.Proofs.Ytempiajepomajaa
