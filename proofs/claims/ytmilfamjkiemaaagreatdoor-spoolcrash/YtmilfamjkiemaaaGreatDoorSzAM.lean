/-
  Layer 6: a file comes to nothing; put. Layer 6: do, where nothing is changed in its place.
-/
import Derived.Test.YtmilfamjkiemaaaGreatDoorSzAL
namespace Go.Proofs.YtmilfamjkiemaaaGreatDoor
open Go.RowKit

set_option maxHeartbeats 4000000 in
set_option maxRecDepth 100000 in
theorem come_none (base : Nat) (n d : ByteArray) (w : World) (hB : base ≤ w.heap.size) :
    Calls Tryz.prog 169 #[.slice none 0 0, .int .i64 0, .agg #[.string n, .string d]] w fun e w' => PutPost base w [⟨n, d⟩] e w' := by
  obtain ⟨i0, hi, hz0, hz1, hz2⟩ := infoFile'
  obtain ⟨w1, hw1⟩ : ∃ w1, w1 = (w.alloc (.cells #[.string n, .string d] 84)).alloc (.cells #[.string n, .string d] 84) := ⟨_, rfl⟩
  have b1 : Below w.heap.size w w1 := by rw [hw1]; exact Rg.al2 _ _ _
  have z1 : w1.heap.size = w.heap.size + 2 := by rw [hw1]; simp
  have news : ∀ j u, (fileE.enc ⟨n, d⟩)[j]? = some u → w1.cell? ((⟨w.heap.size + 1, 0, none⟩ : Addr).add j) = some u := by
    intro j u hj
    match j, hj with
    | 0, hj => simp [fileE] at hj; subst hj; simp [Addr.add, hw1]
    | 1, hj => simp [fileE] at hj; subst hj; simp [Addr.add, hw1]
    | j + 2, hj => simp [fileE] at hj
  obtain ⟨g', cap', rest', w2, hap, hown, hb2, hg'⟩ := fileE.append0 (P := Tryz.prog) w1 base ⟨n, d⟩ 25 25 i0 _ 32 Tryz.underlying25 hi hz0 hz1 hz2 rfl ⟨w.heap.size + 1, 0, none⟩ 1 news (by omega) (by omega)
  have hb02 : Below base w w2 := (Rg.chain b1 hb2).mono hB
  have c0 : w2.cell? ⟨w.heap.size, 0, none⟩ = some (.string n) := by rw [hb2.cell (p := ⟨w.heap.size, 0, none⟩) (by show w.heap.size < _; omega), hw1]; simp
  have c1 : w2.cell? ⟨w.heap.size, 1, none⟩ = some (.string d) := by rw [hb2.cell (p := ⟨w.heap.size, 1, none⟩) (by show w.heap.size < _; omega), hw1]; simp
  have post : Hid (PutPost base w [⟨n, d⟩] (.returned (.slice (some ⟨g', 0, none⟩) 1 cap')) ((w2.setCell ⟨g', 0, none⟩ (.string n)).setCell ⟨g', 1, none⟩ (.string d))) := by
    have h5 := file_put hown (i := 0) (by simp) n d
    exact ⟨_, rfl, .inr ⟨g', cap', rest', rfl, h5⟩, ((hb02.setCell hown.new _).setCell hown.new _)⟩
  obtain ⟨c2, c3⟩ := file_at (show Rg.At w2 g' (0 + 0 * 2) (fileE.enc ⟨_, _⟩) from hown.row.elem (by simp))
  simp only [Nat.zero_mul, Nat.add_zero, Nat.zero_add] at c2 c3
  have t0 := hown.thaw 0
  have t1 := hown.thaw 1
  have hcap := hown.le
  simp only [List.length_singleton] at hcap
  have e5 : (1 : Int) ≤ (cap' : Int) := by omega
  replace hap := Rg.hid hap
  clear hown hi hz0 hz1 hz2 news
  subst hw1
  by_cases hc : cap' = 1
  · subst hc
    have hcp := Rg.hid (Rg.run_copy0 (P := Tryz.prog) w2 25 25 3 84 2 (some ⟨g', 0, none⟩) 0 0 0 Tryz.underlying25 sizeFile)
    go_enter Tryz.func169, Tryz.ntmps169
    go_wp2_with (at_builtin; refine Rg.wpList_append_run rfl (.tmp 16) (.tmp 18) 25 rfl _ _ rfl rfl _ _ hap.out ?_)
    rw [hcp.out]
    simp only [Result.andThen]
    rw [Oper.upon_value]
    go_wp2
    go_ret
    exact post.out
  · have hcp := Rg.hid (Rg.run_copy0 (P := Tryz.prog) w2 25 25 3 84 2 (some ⟨g', 2, none⟩) 0 (cap' - 1) 0 Tryz.underlying25 sizeFile)
    go_enter Tryz.func169, Tryz.ntmps169
    go_wp2_with (at_builtin; refine Rg.wpList_append_run rfl (.tmp 16) (.tmp 18) 25 rfl _ _ rfl rfl _ _ hap.out ?_)
    rw [hcp.out]
    simp only [Result.andThen]
    rw [Oper.upon_value]
    go_wp2
    go_ret
    exact post.out

set_option maxHeartbeats 1000000 in
theorem put_none (base : Nat) (n d : ByteArray) (w : World) (hB : base ≤ w.heap.size) :
    Calls Tryz.prog 143 #[.slice none 0 0, .agg #[.string n, .string d]] w fun e w' => PutPost base w (Dsk.put [] ⟨n, d⟩) e w' := by
  have HF : Hid (∀ W, Calls Tryz.prog 121 #[.slice none 0 0, .string n] W fun e w' => e = .returned (.tuple #[.int .i64 0, .bool false]) ∧ Below W.heap.size W w') := fun W => find_any none 0 [] n W List.Pairwise.nil (by simp) (.inl ⟨rfl, rfl⟩)
  have HC : Hid (∀ W, Below w.heap.size w W → Calls Tryz.prog 169 #[.slice none 0 0, .int .i64 0, .agg #[.string n, .string d]] W fun e w' => PutPost base w [⟨n, d⟩] e w') := fun W hW => (come_none base n d W (Nat.le_trans hB hW.size)).mono fun e w' ⟨v, h1, h2, h3⟩ => ⟨v, h1, h2, (hW.mono hB).trans h3⟩
  go_enter Tryz.func143, Tryz.ntmps143
  go_wp2_with (go_at_call 121; refine (HF.out _).mono ?_; rintro e w' ⟨rfl, hb⟩; obtain ⟨hc, hf⟩ := Rg.bcell hb)
  have hz : w.heap.size < w'.heap.size := by have := hb.size; simp at this; omega
  have hbw := Rg.chain (Rg.al1 w (.cells #[.string n, .string d] 84)) hb
  go_wp2_with (go_at_call 169; refine (HC.out _ hbw).mono ?_)
  rintro e w2 ⟨v, rfl, h2, h3⟩
  go_wp2
  go_ret
  exact ⟨v, rfl, h2, h3⟩

set_option maxHeartbeats 1000000 in
theorem put_row (base g cap : Nat) (l : List Dsk.Fl) (rest : List Value) (n d : ByteArray) (w : World) (hs : Dsk.Srt l) (hn : l.length ≤ 1000000000) (hB : base ≤ w.heap.size) (h : fileE.Own base w g cap l rest) :
    Calls Tryz.prog 143 #[.slice (some ⟨g, 0, none⟩) l.length cap, .agg #[.string n, .string d]] w fun e w' => PutPost base w (Dsk.put l ⟨n, d⟩) e w' := by
  have hgw := h.lt
  have hB0 := h.new
  have HF : Hid (∀ W, Below w.heap.size w W → Calls Tryz.prog 121 #[.slice (some ⟨g, 0, none⟩) l.length cap, .string n] W fun e w' => e = .returned (.tuple #[.int .i64 (Dsk.pos l n), .bool (Dsk.has l n)]) ∧ Below W.heap.size W w') := fun W hW => find_any _ cap l n W hs hn ((h.below hW).toRow)
  have hpl := Dsk.pos_le l n
  cases hh : Dsk.has l n
  · have hg : Dsk.get l n = none := by unfold Dsk.has at hh; cases e : Dsk.get l n; (· rfl); rw [e] at hh; cases hh
    have HC : Hid (∀ W, Below w.heap.size w W → Calls Tryz.prog 169 #[.slice (some ⟨g, 0, none⟩) l.length cap, .int .i64 (Dsk.pos l n), .agg #[.string n, .string d]] W fun e w' => PutPost base w (Dsk.put l ⟨n, d⟩) e w') := fun W hW => by
      rw [Dsk.put_new l ⟨n, d⟩ hg]
      exact (come_row base g cap l rest (Dsk.pos l n) n d W hn hpl (Nat.le_trans hB hW.size) (h.below hW)).mono fun e w' ⟨v, h1, h2, h3⟩ => ⟨v, h1, h2, (hW.mono hB).trans h3⟩
    rw [hh] at HF
    generalize l.length = N at *
    generalize Dsk.pos l n = p at *
    generalize Dsk.put l ⟨n, d⟩ = l' at *
    clear h hs hh hg hpl
    go_enter Tryz.func143, Tryz.ntmps143
    go_wp2_with (go_at_call 121; refine (HF.out _ (Rg.al1 _ _)).mono ?_; rintro e w' ⟨rfl, hb⟩; obtain ⟨hc, hf⟩ := Rg.bcell hb)
    have hz : w.heap.size < w'.heap.size := by have := hb.size; simp at this; omega
    have hbw := Rg.chain (Rg.al1 w (.cells #[.string n, .string d] 84)) hb
    go_wp2_with (go_at_call 169; refine (HC.out _ hbw).mono ?_)
    rintro e w2 ⟨v, rfl, h2, h3⟩
    go_wp2
    go_ret
    exact ⟨v, rfl, h2, h3⟩
  · obtain ⟨x, hg⟩ : ∃ x, Dsk.get l n = some x := by unfold Dsk.has at hh; exact Option.isSome_iff_exists.1 hh
    obtain ⟨hp, hpn, hpd⟩ := Dsk.get_some_iff.1 hg
    have hfin : Hid (∀ W, Below w.heap.size w W → PutPost base w (Dsk.put l ⟨n, d⟩) (.returned (.slice (some ⟨g, 0, none⟩) l.length cap)) ((W.setCell ⟨g, Dsk.pos l n * 2, none⟩ (.string n)).setCell ⟨g, Dsk.pos l n * 2 + 1, none⟩ (.string d))) := fun W hW => by
      have h5 := file_put (h.below hW) hp n d
      rw [Dsk.put_there l ⟨n, d⟩ (by rw [hg]; simp)]
      exact ⟨_, rfl, .inr ⟨g, cap, rest, by rw [List.length_set], h5⟩, ((hW.mono hB).setCell hB0 _).setCell hB0 _⟩
    have hcell : Hid (∀ W, Below w.heap.size w W → W.cell? ⟨g, Dsk.pos l n * 2, none⟩ = some (.string n) ∧ W.cell? ⟨g, Dsk.pos l n * 2 + 1, none⟩ = some (.string x) ∧ (∀ i, W.frozen? ⟨g, i, none⟩ = false)) := fun W hW => by
      have q := (h.below hW).row.elem hp
      rw [Nat.zero_add] at q
      obtain ⟨q0, q1⟩ := file_at (show Rg.At W g (Dsk.pos l n * 2) (fileE.enc ⟨l[Dsk.pos l n].n, l[Dsk.pos l n].d⟩) from q)
      rw [hpn] at q0; rw [hpd] at q1
      exact ⟨q0, q1, (h.below hW).thaw⟩
    rw [hh] at HF
    clear h hs hh hg hpn hpd
    generalize l.length = N at *
    generalize Dsk.put l ⟨n, d⟩ = l' at *
    generalize Dsk.pos l n = p at *
    have e0 : (0 : Int) ≤ (p : Int) := by omega
    have e1 : (p : Int) < (N : Int) := by omega
    go_enter Tryz.func143, Tryz.ntmps143
    go_wp2_with (go_at_call 121; refine (HF.out _ (Rg.al1 _ _)).mono ?_)
    rintro e w' ⟨rfl, hb⟩
    have c0 : w'.cell? ⟨w.heap.size, 0, none⟩ = some (.string n) := by rw [hb.cell (p := ⟨w.heap.size, 0, none⟩) (by simp)]; simp
    have c1 : w'.cell? ⟨w.heap.size, 1, none⟩ = some (.string d) := by rw [hb.cell (p := ⟨w.heap.size, 1, none⟩) (by simp)]; simp
    have hz : w.heap.size < w'.heap.size := by have := hb.size; simp at this; omega
    have hbw := Rg.chain (Rg.al1 w (.cells #[.string n, .string d] 84)) hb
    obtain ⟨q0, q1, q2⟩ := hcell.out w' hbw
    have hfin' := Rg.hid (hfin.out w' hbw)
    clear hfin hcell HF
    go_wp2
    go_ret
    exact hfin'.out

theorem put_any (base : Nat) (v : Value) (l : List Dsk.Fl) (n d : ByteArray) (w : World) (hs : Dsk.Srt l) (hn : l.length ≤ 1000000000) (hB : base ≤ w.heap.size) (h : FOwn base w v l) :
    Calls Tryz.prog 143 #[v, .agg #[.string n, .string d]] w fun e w' => PutPost base w (Dsk.put l ⟨n, d⟩) e w' := by
  rcases h with ⟨rfl, rfl⟩ | ⟨g, cap, rest, rfl, h⟩
  · exact put_none base n d w hB
  · exact put_row base g cap l rest n d w hs hn hB h
end Go.Proofs.YtmilfamjkiemaaaGreatDoor

namespace Go.Proofs.YtmilfamjkiemaaaGreatDoor
open Go.RowKit

theorem FOwn.shape {base : Nat} {W : World} {v : Value} {l : List Dsk.Fl} (h : FOwn base W v l) : ∃ a c, v = .slice a l.length c ∧ fileE.Row W a l := by
  rcases h with ⟨rfl, rfl⟩ | ⟨g, cap, rest, rfl, h⟩
  · exact ⟨none, 0, rfl, .inl ⟨rfl, rfl⟩⟩
  · exact ⟨_, cap, rfl, h.toRow⟩

set_option maxHeartbeats 2000000 in
theorem do_write (base : Nat) (v : Value) (l : List Dsk.Fl) (k : Int) (n t d : ByteArray) (w : World) (hs : Dsk.Srt l) (hn : l.length ≤ 1000000000) (hB : base ≤ w.heap.size) (h : FOwn base w v l) (hk : k = 1) :
    Calls Tryz.prog 118 #[v, .agg #[.int .i64 k, .string n, .string t, .string d]] w fun e w' => PutPost base w (Dsk.after l ⟨k, n, t, d⟩) e w' := by
  have ha : Dsk.after l ⟨k, n, t, d⟩ = Dsk.put l ⟨n, d⟩ := by unfold Dsk.after; rw [if_pos hk]
  rw [ha]
  obtain ⟨a, c, rfl, hrow⟩ := h.shape
  have HF : Hid (∀ W, Below w.heap.size w W → Calls Tryz.prog 121 #[.slice a l.length c, .string n] W fun e w' => e = .returned (.tuple #[.int .i64 (Dsk.pos l n), .bool (Dsk.has l n)]) ∧ Below W.heap.size W w') := fun W hW => find_any a c l n W hs hn (hrow.below hW)
  have HP : Hid (∀ W, Below w.heap.size w W → Calls Tryz.prog 143 #[.slice a l.length c, .agg #[.string n, .string d]] W fun e w' => PutPost base w (Dsk.put l ⟨n, d⟩) e w') := fun W hW => (put_any base _ l n d W hs hn (Nat.le_trans hB hW.size) (h.below hW)).mono fun e w' ⟨v, h1, h2, h3⟩ => ⟨v, h1, h2, (hW.mono hB).trans h3⟩
  have HS : Hid (∀ W, Below w.heap.size w W → PutPost base w l (.returned (.slice a l.length c)) W) := fun W hW => ⟨_, rfl, h.below hW, hW.mono hB⟩
  generalize Dsk.has l n = b at *
  generalize l.length = N at *
  generalize Dsk.pos l n = p at *
  generalize Dsk.put l ⟨n, d⟩ = l' at *
  clear h hs hrow ha HS
  subst hk
  go_enter Tryz.func118, Tryz.ntmps118
  go_wp2_with (go_at_call 121; refine (HF.out _ (Rg.al1 _ _)).mono ?_)
  rintro e w1 ⟨rfl, hb⟩
  have c0 : w1.cell? ⟨w.heap.size, 0, none⟩ = some (.int .i64 1) := by rw [hb.cell (p := ⟨w.heap.size, 0, none⟩) (by simp)]; simp
  have c1 : w1.cell? ⟨w.heap.size, 1, none⟩ = some (.string n) := by rw [hb.cell (p := ⟨w.heap.size, 1, none⟩) (by simp)]; simp
  have c2 : w1.cell? ⟨w.heap.size, 2, none⟩ = some (.string t) := by rw [hb.cell (p := ⟨w.heap.size, 2, none⟩) (by simp)]; simp
  have c3 : w1.cell? ⟨w.heap.size, 3, none⟩ = some (.string d) := by rw [hb.cell (p := ⟨w.heap.size, 3, none⟩) (by simp)]; simp
  have hbw := Rg.chain (Rg.al1 w (.cells #[.int .i64 1, .string n, .string t, .string d] 87)) hb
  go_wp2_with (go_at_call 143; refine (HP.out _ hbw).mono ?_)
  rintro e w2 ⟨v, rfl, h2, h3⟩
  go_wp2
  go_ret
  exact ⟨v, rfl, h2, h3⟩

set_option maxHeartbeats 2000000 in
theorem do_append_new (base : Nat) (v : Value) (l : List Dsk.Fl) (k : Int) (n t d : ByteArray) (w : World) (hs : Dsk.Srt l) (hn : l.length ≤ 1000000000) (hB : base ≤ w.heap.size) (h : FOwn base w v l) (hk : k = 2) (hh : Dsk.has l n = false) :
    Calls Tryz.prog 118 #[v, .agg #[.int .i64 k, .string n, .string t, .string d]] w fun e w' => PutPost base w (Dsk.after l ⟨k, n, t, d⟩) e w' := by
  have hg : Dsk.get l n = none := by unfold Dsk.has at hh; cases e : Dsk.get l n; (· rfl); rw [e] at hh; cases hh
  have ha : Dsk.after l ⟨k, n, t, d⟩ = Dsk.put l ⟨n, d⟩ := by
    unfold Dsk.after
    rw [if_neg (by show ¬ k = 1; omega), if_pos hk]
    show Dsk.put l ⟨n, (Dsk.get l n).getD ByteArray.empty ++ d⟩ = _
    rw [hg]; simp
  rw [ha]
  obtain ⟨a, c, rfl, hrow⟩ := h.shape
  have HF : Hid (∀ W, Below w.heap.size w W → Calls Tryz.prog 121 #[.slice a l.length c, .string n] W fun e w' => e = .returned (.tuple #[.int .i64 (Dsk.pos l n), .bool (Dsk.has l n)]) ∧ Below W.heap.size W w') := fun W hW => find_any a c l n W hs hn (hrow.below hW)
  have HP : Hid (∀ W, Below w.heap.size w W → Calls Tryz.prog 143 #[.slice a l.length c, .agg #[.string n, .string d]] W fun e w' => PutPost base w (Dsk.put l ⟨n, d⟩) e w') := fun W hW => (put_any base _ l n d W hs hn (Nat.le_trans hB hW.size) (h.below hW)).mono fun e w' ⟨v, h1, h2, h3⟩ => ⟨v, h1, h2, (hW.mono hB).trans h3⟩
  have HS : Hid (∀ W, Below w.heap.size w W → PutPost base w l (.returned (.slice a l.length c)) W) := fun W hW => ⟨_, rfl, h.below hW, hW.mono hB⟩
  rw [hh] at HF
  generalize l.length = N at *
  generalize Dsk.pos l n = p at *
  generalize Dsk.put l ⟨n, d⟩ = l' at *
  clear h hs hrow ha HS hh hg
  subst hk
  go_enter Tryz.func118, Tryz.ntmps118
  go_wp2_with (go_at_call 121; refine (HF.out _ (Rg.al1 _ _)).mono ?_)
  rintro e w1 ⟨rfl, hb⟩
  have c0 : w1.cell? ⟨w.heap.size, 0, none⟩ = some (.int .i64 2) := by rw [hb.cell (p := ⟨w.heap.size, 0, none⟩) (by simp)]; simp
  have c1 : w1.cell? ⟨w.heap.size, 1, none⟩ = some (.string n) := by rw [hb.cell (p := ⟨w.heap.size, 1, none⟩) (by simp)]; simp
  have c2 : w1.cell? ⟨w.heap.size, 2, none⟩ = some (.string t) := by rw [hb.cell (p := ⟨w.heap.size, 2, none⟩) (by simp)]; simp
  have c3 : w1.cell? ⟨w.heap.size, 3, none⟩ = some (.string d) := by rw [hb.cell (p := ⟨w.heap.size, 3, none⟩) (by simp)]; simp
  have hbw := Rg.chain (Rg.al1 w (.cells #[.int .i64 2, .string n, .string t, .string d] 87)) hb
  go_wp2_with (go_at_call 143; refine (HP.out _ hbw).mono ?_)
  rintro e w2 ⟨v, rfl, h2, h3⟩
  go_wp2
  go_ret
  exact ⟨v, rfl, h2, h3⟩

set_option maxHeartbeats 2000000 in
theorem do_rename_none (base : Nat) (v : Value) (l : List Dsk.Fl) (k : Int) (n t d : ByteArray) (w : World) (hs : Dsk.Srt l) (hn : l.length ≤ 1000000000) (hB : base ≤ w.heap.size) (h : FOwn base w v l) (hk : k = 3) (hh : Dsk.has l n = false) :
    Calls Tryz.prog 118 #[v, .agg #[.int .i64 k, .string n, .string t, .string d]] w fun e w' => PutPost base w (Dsk.after l ⟨k, n, t, d⟩) e w' := by
  have hg : Dsk.get l n = none := by unfold Dsk.has at hh; cases e : Dsk.get l n; (· rfl); rw [e] at hh; cases hh
  have ha : Dsk.after l ⟨k, n, t, d⟩ = l := by
    unfold Dsk.after
    rw [if_neg (by show ¬ k = 1; omega), if_neg (by show ¬ k = 2; omega), if_pos hk]
    show (match Dsk.get l n with | none => l | some d => if n = t then l else Dsk.put (Dsk.cut l n) ⟨t, d⟩) = l
    rw [hg]
  rw [ha]
  obtain ⟨a, c, rfl, hrow⟩ := h.shape
  have HF : Hid (∀ W, Below w.heap.size w W → Calls Tryz.prog 121 #[.slice a l.length c, .string n] W fun e w' => e = .returned (.tuple #[.int .i64 (Dsk.pos l n), .bool (Dsk.has l n)]) ∧ Below W.heap.size W w') := fun W hW => find_any a c l n W hs hn (hrow.below hW)
  have HP : Hid (∀ W, Below w.heap.size w W → Calls Tryz.prog 143 #[.slice a l.length c, .agg #[.string n, .string d]] W fun e w' => PutPost base w (Dsk.put l ⟨n, d⟩) e w') := fun W hW => (put_any base _ l n d W hs hn (Nat.le_trans hB hW.size) (h.below hW)).mono fun e w' ⟨v, h1, h2, h3⟩ => ⟨v, h1, h2, (hW.mono hB).trans h3⟩
  have HS : Hid (∀ W, Below w.heap.size w W → PutPost base w l (.returned (.slice a l.length c)) W) := fun W hW => ⟨_, rfl, h.below hW, hW.mono hB⟩
  rw [hh] at HF
  generalize l.length = N at *
  generalize Dsk.pos l n = p at *
  clear h hs hrow ha HP
  clear hh hg
  subst hk
  go_enter Tryz.func118, Tryz.ntmps118
  go_wp2_with (go_at_call 121; refine (HF.out _ (Rg.al1 _ _)).mono ?_)
  rintro e w1 ⟨rfl, hb⟩
  have c0 : w1.cell? ⟨w.heap.size, 0, none⟩ = some (.int .i64 3) := by rw [hb.cell (p := ⟨w.heap.size, 0, none⟩) (by simp)]; simp
  have c1 : w1.cell? ⟨w.heap.size, 1, none⟩ = some (.string n) := by rw [hb.cell (p := ⟨w.heap.size, 1, none⟩) (by simp)]; simp
  have c2 : w1.cell? ⟨w.heap.size, 2, none⟩ = some (.string t) := by rw [hb.cell (p := ⟨w.heap.size, 2, none⟩) (by simp)]; simp
  have c3 : w1.cell? ⟨w.heap.size, 3, none⟩ = some (.string d) := by rw [hb.cell (p := ⟨w.heap.size, 3, none⟩) (by simp)]; simp
  have hbw := Rg.chain (Rg.al1 w (.cells #[.int .i64 3, .string n, .string t, .string d] 87)) hb
  have hS := Rg.hid (HS.out w1 hbw)
  go_wp2
  go_ret
  exact hS.out

set_option maxHeartbeats 2000000 in
theorem do_rename_same (base : Nat) (v : Value) (l : List Dsk.Fl) (k : Int) (n t d : ByteArray) (w : World) (hs : Dsk.Srt l) (hn : l.length ≤ 1000000000) (hB : base ≤ w.heap.size) (h : FOwn base w v l) (hk : k = 3) (ht : t = n) :
    Calls Tryz.prog 118 #[v, .agg #[.int .i64 k, .string n, .string t, .string d]] w fun e w' => PutPost base w (Dsk.after l ⟨k, n, t, d⟩) e w' := by
  have ha : Dsk.after l ⟨k, n, t, d⟩ = l := by
    unfold Dsk.after
    rw [if_neg (by show ¬ k = 1; omega), if_neg (by show ¬ k = 2; omega), if_pos hk]
    show (match Dsk.get l n with | none => l | some d => if n = t then l else Dsk.put (Dsk.cut l n) ⟨t, d⟩) = l
    split
    · rfl
    · exact if_pos ht.symm
  rw [ha]
  obtain ⟨a, c, rfl, hrow⟩ := h.shape
  have HF : Hid (∀ W, Below w.heap.size w W → Calls Tryz.prog 121 #[.slice a l.length c, .string n] W fun e w' => e = .returned (.tuple #[.int .i64 (Dsk.pos l n), .bool (Dsk.has l n)]) ∧ Below W.heap.size W w') := fun W hW => find_any a c l n W hs hn (hrow.below hW)
  have HP : Hid (∀ W, Below w.heap.size w W → Calls Tryz.prog 143 #[.slice a l.length c, .agg #[.string n, .string d]] W fun e w' => PutPost base w (Dsk.put l ⟨n, d⟩) e w') := fun W hW => (put_any base _ l n d W hs hn (Nat.le_trans hB hW.size) (h.below hW)).mono fun e w' ⟨v, h1, h2, h3⟩ => ⟨v, h1, h2, (hW.mono hB).trans h3⟩
  have HS : Hid (∀ W, Below w.heap.size w W → PutPost base w l (.returned (.slice a l.length c)) W) := fun W hW => ⟨_, rfl, h.below hW, hW.mono hB⟩
  generalize l.length = N at *
  generalize Dsk.pos l n = p at *
  clear h hs hrow ha HP
  subst hk
  subst ht
  cases hh : Dsk.has l t
  all_goals
    rw [hh] at HF
    clear hh
    go_enter Tryz.func118, Tryz.ntmps118
    go_wp2_with (go_at_call 121; refine (HF.out _ (Rg.al1 _ _)).mono ?_)
    rintro e w1 ⟨rfl, hb⟩
    have c0 : w1.cell? ⟨w.heap.size, 0, none⟩ = some (.int .i64 3) := by rw [hb.cell (p := ⟨w.heap.size, 0, none⟩) (by simp)]; simp
    have c1 : w1.cell? ⟨w.heap.size, 1, none⟩ = some (.string t) := by rw [hb.cell (p := ⟨w.heap.size, 1, none⟩) (by simp)]; simp
    have c2 : w1.cell? ⟨w.heap.size, 2, none⟩ = some (.string t) := by rw [hb.cell (p := ⟨w.heap.size, 2, none⟩) (by simp)]; simp
    have c3 : w1.cell? ⟨w.heap.size, 3, none⟩ = some (.string d) := by rw [hb.cell (p := ⟨w.heap.size, 3, none⟩) (by simp)]; simp
    have hbw := Rg.chain (Rg.al1 w (.cells #[.int .i64 3, .string t, .string t, .string d] 87)) hb
    have hS := Rg.hid (HS.out w1 hbw)
    go_wp2
    go_ret
    exact hS.out

set_option maxHeartbeats 2000000 in
theorem do_remove_none (base : Nat) (v : Value) (l : List Dsk.Fl) (k : Int) (n t d : ByteArray) (w : World) (hs : Dsk.Srt l) (hn : l.length ≤ 1000000000) (hB : base ≤ w.heap.size) (h : FOwn base w v l) (hk : k = 4) (hh : Dsk.has l n = false) :
    Calls Tryz.prog 118 #[v, .agg #[.int .i64 k, .string n, .string t, .string d]] w fun e w' => PutPost base w (Dsk.after l ⟨k, n, t, d⟩) e w' := by
  have hg : Dsk.get l n = none := by unfold Dsk.has at hh; cases e : Dsk.get l n; (· rfl); rw [e] at hh; cases hh
  have ha : Dsk.after l ⟨k, n, t, d⟩ = l := by
    unfold Dsk.after
    rw [if_neg (by show ¬ k = 1; omega), if_neg (by show ¬ k = 2; omega), if_neg (by show ¬ k = 3; omega), if_pos hk]
    exact Dsk.cut_none l n hg
  rw [ha]
  obtain ⟨a, c, rfl, hrow⟩ := h.shape
  have HF : Hid (∀ W, Below w.heap.size w W → Calls Tryz.prog 121 #[.slice a l.length c, .string n] W fun e w' => e = .returned (.tuple #[.int .i64 (Dsk.pos l n), .bool (Dsk.has l n)]) ∧ Below W.heap.size W w') := fun W hW => find_any a c l n W hs hn (hrow.below hW)
  have HP : Hid (∀ W, Below w.heap.size w W → Calls Tryz.prog 143 #[.slice a l.length c, .agg #[.string n, .string d]] W fun e w' => PutPost base w (Dsk.put l ⟨n, d⟩) e w') := fun W hW => (put_any base _ l n d W hs hn (Nat.le_trans hB hW.size) (h.below hW)).mono fun e w' ⟨v, h1, h2, h3⟩ => ⟨v, h1, h2, (hW.mono hB).trans h3⟩
  have HS : Hid (∀ W, Below w.heap.size w W → PutPost base w l (.returned (.slice a l.length c)) W) := fun W hW => ⟨_, rfl, h.below hW, hW.mono hB⟩
  rw [hh] at HF
  generalize l.length = N at *
  generalize Dsk.pos l n = p at *
  clear h hs hrow ha HP
  clear hh hg
  subst hk
  go_enter Tryz.func118, Tryz.ntmps118
  go_wp2_with (go_at_call 121; refine (HF.out _ (Rg.al1 _ _)).mono ?_)
  rintro e w1 ⟨rfl, hb⟩
  have c0 : w1.cell? ⟨w.heap.size, 0, none⟩ = some (.int .i64 4) := by rw [hb.cell (p := ⟨w.heap.size, 0, none⟩) (by simp)]; simp
  have c1 : w1.cell? ⟨w.heap.size, 1, none⟩ = some (.string n) := by rw [hb.cell (p := ⟨w.heap.size, 1, none⟩) (by simp)]; simp
  have c2 : w1.cell? ⟨w.heap.size, 2, none⟩ = some (.string t) := by rw [hb.cell (p := ⟨w.heap.size, 2, none⟩) (by simp)]; simp
  have c3 : w1.cell? ⟨w.heap.size, 3, none⟩ = some (.string d) := by rw [hb.cell (p := ⟨w.heap.size, 3, none⟩) (by simp)]; simp
  have hbw := Rg.chain (Rg.al1 w (.cells #[.int .i64 4, .string n, .string t, .string d] 87)) hb
  have hS := Rg.hid (HS.out w1 hbw)
  go_wp2
  go_ret
  exact hS.out

set_option maxHeartbeats 2000000 in
theorem do_else (base : Nat) (v : Value) (l : List Dsk.Fl) (k : Int) (n t d : ByteArray) (w : World) (hs : Dsk.Srt l) (hn : l.length ≤ 1000000000) (hB : base ≤ w.heap.size) (h : FOwn base w v l) (k1 : k ≠ 1) (k2 : k ≠ 2) (k3 : k ≠ 3) (k4 : k ≠ 4) :
    Calls Tryz.prog 118 #[v, .agg #[.int .i64 k, .string n, .string t, .string d]] w fun e w' => PutPost base w (Dsk.after l ⟨k, n, t, d⟩) e w' := by
  have ha : Dsk.after l ⟨k, n, t, d⟩ = l := by
    unfold Dsk.after
    rw [if_neg k1, if_neg k2, if_neg k3, if_neg k4]
  have d1 : (k == 1) = false := by simp [k1]
  have d2 : (k == 2) = false := by simp [k2]
  have d3 : (k == 3) = false := by simp [k3]
  have d4 : (k == 4) = false := by simp [k4]
  rw [ha]
  obtain ⟨a, c, rfl, hrow⟩ := h.shape
  have HF : Hid (∀ W, Below w.heap.size w W → Calls Tryz.prog 121 #[.slice a l.length c, .string n] W fun e w' => e = .returned (.tuple #[.int .i64 (Dsk.pos l n), .bool (Dsk.has l n)]) ∧ Below W.heap.size W w') := fun W hW => find_any a c l n W hs hn (hrow.below hW)
  have HP : Hid (∀ W, Below w.heap.size w W → Calls Tryz.prog 143 #[.slice a l.length c, .agg #[.string n, .string d]] W fun e w' => PutPost base w (Dsk.put l ⟨n, d⟩) e w') := fun W hW => (put_any base _ l n d W hs hn (Nat.le_trans hB hW.size) (h.below hW)).mono fun e w' ⟨v, h1, h2, h3⟩ => ⟨v, h1, h2, (hW.mono hB).trans h3⟩
  have HS : Hid (∀ W, Below w.heap.size w W → PutPost base w l (.returned (.slice a l.length c)) W) := fun W hW => ⟨_, rfl, h.below hW, hW.mono hB⟩
  generalize Dsk.has l n = b at *
  generalize l.length = N at *
  generalize Dsk.pos l n = p at *
  clear h hs hrow ha HP
  go_enter Tryz.func118, Tryz.ntmps118
  go_wp2_with (go_at_call 121; refine (HF.out _ (Rg.al1 _ _)).mono ?_)
  rintro e w1 ⟨rfl, hb⟩
  have c0 : w1.cell? ⟨w.heap.size, 0, none⟩ = some (.int .i64 k) := by rw [hb.cell (p := ⟨w.heap.size, 0, none⟩) (by simp)]; simp
  have c1 : w1.cell? ⟨w.heap.size, 1, none⟩ = some (.string n) := by rw [hb.cell (p := ⟨w.heap.size, 1, none⟩) (by simp)]; simp
  have c2 : w1.cell? ⟨w.heap.size, 2, none⟩ = some (.string t) := by rw [hb.cell (p := ⟨w.heap.size, 2, none⟩) (by simp)]; simp
  have c3 : w1.cell? ⟨w.heap.size, 3, none⟩ = some (.string d) := by rw [hb.cell (p := ⟨w.heap.size, 3, none⟩) (by simp)]; simp
  have hbw := Rg.chain (Rg.al1 w (.cells #[.int .i64 k, .string n, .string t, .string d] 87)) hb
  have hS := Rg.hid (HS.out w1 hbw)
  go_wp2
  go_ret
  exact hS.out
end Go.Proofs.YtmilfamjkiemaaaGreatDoor
