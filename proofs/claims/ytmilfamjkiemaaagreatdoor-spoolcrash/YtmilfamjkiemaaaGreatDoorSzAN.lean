/-
  Layer 6: do, where a file that is there is changed. Layer 6: behind, Files, Used.
-/
import Derived.Test.YtmilfamjkiemaaaGreatDoorSzAM
import Derived.Deep.RegionWith
namespace Go.Proofs.YtmilfamjkiemaaaGreatDoor
open Go.RowKit

theorem has_get {l : List Dsk.Fl} {n : ByteArray} (h : Dsk.has l n = true) : ∃ x, Dsk.get l n = some x := Option.isSome_iff_exists.1 h
set_option maxHeartbeats 2000000 in
theorem do_remove (base g cap : Nat) (l : List Dsk.Fl) (rest : List Value) (n t d : ByteArray) (w : World) (hs : Dsk.Srt l) (hn : l.length ≤ 1000000000) (hB : base ≤ w.heap.size) (h : fileE.Own base w g cap l rest) (hh : Dsk.has l n = true) :
    Calls Tryz.prog 118 #[.slice (some ⟨g, 0, none⟩) l.length cap, .agg #[.int .i64 4, .string n, .string t, .string d]] w fun e w' => PutPost base w (Dsk.after l ⟨4, n, t, d⟩) e w' := by
  obtain ⟨x, hg⟩ := has_get hh
  obtain ⟨hp, hpn, hpd⟩ := Dsk.get_some_iff.1 hg
  have ha : Dsk.after l ⟨4, n, t, d⟩ = l.take (Dsk.pos l n) ++ l.drop (Dsk.pos l n + 1) := Dsk.cut_there l n (by rw [hg]; simp)
  rw [ha]
  have HF : Hid (∀ W, Below w.heap.size w W → Calls Tryz.prog 121 #[.slice (some ⟨g, 0, none⟩) l.length cap, .string n] W fun e w' => e = .returned (.tuple #[.int .i64 (Dsk.pos l n), .bool (Dsk.has l n)]) ∧ Below W.heap.size W w') := fun W hW => find_any _ cap l n W hs hn (h.below hW).toRow
  have HL : Hid (∀ W, Below w.heap.size w W → Calls Tryz.prog 144 #[.slice (some ⟨g, 0, none⟩) l.length cap, .int .i64 (Dsk.pos l n)] W fun e w' => PutPost base w (l.take (Dsk.pos l n) ++ l.drop (Dsk.pos l n + 1)) e w') := fun W hW => (leave_any base g cap l rest (Dsk.pos l n) W hn hp (h.below hW)).mono fun e w' ⟨r, h1, h2, h3⟩ => by
    refine ⟨_, h1, .inr ⟨g, _, r, ?_, h2⟩, (hW.mono hB).trans (h3.bel h2.new)⟩
    rw [show (l.take (Dsk.pos l n) ++ l.drop (Dsk.pos l n + 1)).length = l.length - 1 by simp; omega]
  rw [hh] at HF
  generalize l.take (Dsk.pos l n) ++ l.drop (Dsk.pos l n + 1) = l' at *
  clear h hs hg ha hpn hpd hh
  generalize l.length = N at *
  generalize Dsk.pos l n = p at *
  go_enter Tryz.func118, Tryz.ntmps118
  go_wp2_with (go_at_call 121; refine (HF.out _ (Rg.al1 _ _)).mono ?_)
  rintro e w1 ⟨rfl, hb⟩
  have c0 : w1.cell? ⟨w.heap.size, 0, none⟩ = some (.int .i64 4) := by rw [hb.cell (p := ⟨w.heap.size, 0, none⟩) (by simp)]; simp
  have hbw := Rg.chain (Rg.al1 w (.cells #[.int .i64 4, .string n, .string t, .string d] 87)) hb
  go_wp2_with (go_at_call 144; refine (HL.out _ hbw).mono ?_)
  rintro e w2 ⟨v, rfl, h2, h3⟩
  go_wp2
  go_ret
  exact ⟨v, rfl, h2, h3⟩

set_option maxHeartbeats 4000000 in
set_option maxRecDepth 100000 in
theorem do_append (base g cap : Nat) (l : List Dsk.Fl) (rest : List Value) (n t d : ByteArray) (w : World) (hs : Dsk.Srt l) (hn : l.length ≤ 1000000000) (hB : base ≤ w.heap.size) (h : fileE.Own base w g cap l rest) (hh : Dsk.has l n = true) (hu : Dsk.used l + d.size ≤ 1000000000000) :
    Calls Tryz.prog 118 #[.slice (some ⟨g, 0, none⟩) l.length cap, .agg #[.int .i64 2, .string n, .string t, .string d]] w fun e w' => PutPost base w (Dsk.after l ⟨2, n, t, d⟩) e w' := by
  obtain ⟨x, hg⟩ := has_get hh
  obtain ⟨hp, hpn, hpd⟩ := Dsk.get_some_iff.1 hg
  have hxu := Dsk.get_used hg
  have hgw := h.lt
  have ha : Dsk.after l ⟨2, n, t, d⟩ = l.set (Dsk.pos l n) ⟨n, x ++ d⟩ := by
    have e1 : Dsk.after l ⟨2, n, t, d⟩ = Dsk.put l ⟨n, (Dsk.get l n).getD ByteArray.empty ++ d⟩ := rfl
    rw [e1, hg]
    exact Dsk.put_there l ⟨n, x ++ d⟩ (by rw [hg]; simp)
  rw [ha]
  have HF : Hid (∀ W, Below w.heap.size w W → Calls Tryz.prog 121 #[.slice (some ⟨g, 0, none⟩) l.length cap, .string n] W fun e w' => e = .returned (.tuple #[.int .i64 (Dsk.pos l n), .bool (Dsk.has l n)]) ∧ Below W.heap.size W w') := fun W hW => find_any _ cap l n W hs hn (h.below hW).toRow
  have hfin : Hid (∀ W, Below w.heap.size w W → PutPost base w (l.set (Dsk.pos l n) ⟨n, x ++ d⟩) (.returned (.slice (some ⟨g, 0, none⟩) l.length cap)) (W.setCell ⟨g, Dsk.pos l n * 2 + 1, none⟩ (.string (x ++ d))).drew) := fun W hW => by
    have h5 := file_put1 (h.below hW) hp (x ++ d)
    rw [hpn] at h5
    exact ⟨_, rfl, .inr ⟨g, cap, rest, by rw [List.length_set], h5.drew⟩, ((hW.mono hB).setCell h.new _).drew⟩
  have hcell : Hid (∀ W, Below w.heap.size w W → W.cell? ⟨g, Dsk.pos l n * 2 + 1, none⟩ = some (.string x) ∧ W.frozen? ⟨g, Dsk.pos l n * 2 + 1, none⟩ = false) := fun W hW => by
    have q := (h.below hW).row.elem hp
    rw [Nat.zero_add] at q
    obtain ⟨q0, q1⟩ := file_at (show Rg.At W g (Dsk.pos l n * 2) (fileE.enc ⟨l[Dsk.pos l n].n, l[Dsk.pos l n].d⟩) from q)
    rw [hpd] at q1
    exact ⟨q1, (h.below hW).thaw _⟩
  rw [hh] at HF
  clear h hs hg ha hpn hpd hh
  generalize l.set (Dsk.pos l n) ⟨n, x ++ d⟩ = l' at *
  generalize l.length = N at *
  generalize Dsk.pos l n = p at *
  have e0 : (0 : Int) ≤ (p : Int) := by omega
  have e1 : (p : Int) < (N : Int) := by omega
  have e2 : ¬ (9223372036854775807 < x.size + d.size) := by omega
  have e3 : ((x.size : Int) + (d.size : Int)) ≤ 9223372036854775807 := by omega
  clear hxu hu
  go_enter Tryz.func118, Tryz.ntmps118
  go_wp2_with (go_at_call 121; refine (HF.out _ (Rg.al1 _ _)).mono ?_)
  rintro e w1 ⟨rfl, hb⟩
  have c0 : w1.cell? ⟨w.heap.size, 0, none⟩ = some (.int .i64 2) := by rw [hb.cell (p := ⟨w.heap.size, 0, none⟩) (by simp)]; simp
  have c3 : w1.cell? ⟨w.heap.size, 3, none⟩ = some (.string d) := by rw [hb.cell (p := ⟨w.heap.size, 3, none⟩) (by simp)]; simp
  have hbw := Rg.chain (Rg.al1 w (.cells #[.int .i64 2, .string n, .string t, .string d] 87)) hb
  obtain ⟨q0, q1⟩ := hcell.out w1 hbw
  have hpost := Rg.hid (hfin.out w1 hbw)
  clear hfin hcell HF
  go_wp2
  go_big_region
  go_wp2
  go_ret
  exact hpost.out

theorem ne_bytes {a b : ByteArray} (h : a ≠ b) : (a.toList == b.toList) = false := by
  rw [tl_eq, tl_eq]
  exact beq_eq_false_iff_ne.2 fun e => h (Dsk.ba_ext e)

set_option maxHeartbeats 4000000 in
set_option maxRecDepth 100000 in
theorem do_rename (base g cap : Nat) (l : List Dsk.Fl) (rest : List Value) (n t d : ByteArray) (w : World) (hs : Dsk.Srt l) (hn : l.length ≤ 1000000000) (hB : base ≤ w.heap.size) (h : fileE.Own base w g cap l rest) (hh : Dsk.has l n = true) (ht : t ≠ n) :
    Calls Tryz.prog 118 #[.slice (some ⟨g, 0, none⟩) l.length cap, .agg #[.int .i64 3, .string n, .string t, .string d]] w fun e w' => PutPost base w (Dsk.after l ⟨3, n, t, d⟩) e w' := by
  obtain ⟨x, hg⟩ := has_get hh
  obtain ⟨hp, hpn, hpd⟩ := Dsk.get_some_iff.1 hg
  have hgw := h.lt
  have hcut : Dsk.cut l n = l.take (Dsk.pos l n) ++ l.drop (Dsk.pos l n + 1) := Dsk.cut_there l n (by rw [hg]; simp)
  have ha : Dsk.after l ⟨3, n, t, d⟩ = Dsk.put (Dsk.cut l n) ⟨t, x⟩ := by
    have e1 : Dsk.after l ⟨3, n, t, d⟩ = (match Dsk.get l n with | none => l | some d => if n = t then l else Dsk.put (Dsk.cut l n) ⟨t, d⟩) := rfl
    rw [e1, hg]
    exact if_neg (Ne.symm ht)
  rw [ha]
  have HF : Hid (∀ W, Below w.heap.size w W → Calls Tryz.prog 121 #[.slice (some ⟨g, 0, none⟩) l.length cap, .string n] W fun e w' => e = .returned (.tuple #[.int .i64 (Dsk.pos l n), .bool (Dsk.has l n)]) ∧ Below W.heap.size W w') := fun W hW => find_any _ cap l n W hs hn (h.below hW).toRow
  have hcell : Hid (∀ W, Below w.heap.size w W → W.cell? ⟨g, Dsk.pos l n * 2 + 1, none⟩ = some (.string x)) := fun W hW => by
    have q := (h.below hW).row.elem hp
    rw [Nat.zero_add] at q
    obtain ⟨q0, q1⟩ := file_at (show Rg.At W g (Dsk.pos l n * 2) (fileE.enc ⟨l[Dsk.pos l n].n, l[Dsk.pos l n].d⟩) from q)
    rw [hpd] at q1
    exact q1
  have hcl : (Dsk.cut l n).length = l.length - 1 := by rw [hcut]; simp; omega
  have HL : Hid (∀ W, Below w.heap.size w W → ∀ M, M ≠ g → W.cell? ⟨M, 0, none⟩ = some (.string t) → W.cell? ⟨M, 1, none⟩ = some (.string x) → Calls Tryz.prog 144 #[.slice (some ⟨g, 0, none⟩) l.length cap, .int .i64 (Dsk.pos l n)] W fun e w' => e = .returned (.slice (some ⟨g, 0, none⟩) (l.length - 1) (l.length - 1)) ∧ FOwn base w' (.slice (some ⟨g, 0, none⟩) (l.length - 1) (l.length - 1)) (Dsk.cut l n) ∧ Below base w w' ∧ w'.cell? ⟨M, 0, none⟩ = some (.string t) ∧ w'.cell? ⟨M, 1, none⟩ = some (.string x)) := fun W hW M hM m0 m1 => (leave_any base g cap l rest (Dsk.pos l n) W hn hp (h.below hW)).mono fun e w' ⟨r, h1, h2, h3⟩ => by
    refine ⟨h1, .inr ⟨g, _, r, ?_, by rw [hcut]; exact h2⟩, (hW.mono hB).trans (h3.bel h2.new), ?_, ?_⟩
    · rw [hcl]
    · rw [h3.cell hM]; exact m0
    · rw [h3.cell hM]; exact m1
  have HP : Hid (∀ W, FOwn base W (.slice (some ⟨g, 0, none⟩) (l.length - 1) (l.length - 1)) (Dsk.cut l n) → Below base w W → Calls Tryz.prog 143 #[.slice (some ⟨g, 0, none⟩) (l.length - 1) (l.length - 1), .agg #[.string t, .string x]] W fun e w' => PutPost base w (Dsk.put (Dsk.cut l n) ⟨t, x⟩) e w') := fun W hW hW' => (put_any base _ (Dsk.cut l n) t x W (Dsk.cut_srt n hs) (by omega) (Nat.le_trans hB hW'.size) hW).mono fun e w' ⟨v, h1, h2, h3⟩ => ⟨v, h1, h2, hW'.trans h3⟩
  have d5 := ne_bytes ht
  rw [hh] at HF
  clear h hs hg ha hpn hpd hh hcut hcl
  generalize Dsk.put (Dsk.cut l n) ⟨t, x⟩ = l' at *
  generalize Dsk.cut l n = lc at *
  obtain ⟨N, hN⟩ : ∃ N, N = l.length := ⟨_, rfl⟩
  rw [← hN] at HF HL HP hn hp ⊢
  obtain ⟨N1, hN1⟩ : ∃ N1, N1 = N - 1 := ⟨_, rfl⟩
  rw [← hN1] at HL HP
  clear hN hN1
  generalize Dsk.pos l n = p at *
  have e0 : (0 : Int) ≤ (p : Int) := by omega
  have e1 : (p : Int) < (N : Int) := by omega
  go_enter Tryz.func118, Tryz.ntmps118
  go_wp2_with (go_at_call 121; refine (HF.out _ (Rg.al1 _ _)).mono ?_)
  rintro e w1 ⟨rfl, hb⟩
  have c0 : w1.cell? ⟨w.heap.size, 0, none⟩ = some (.int .i64 3) := by rw [hb.cell (p := ⟨w.heap.size, 0, none⟩) (by simp)]; simp
  have c1 : w1.cell? ⟨w.heap.size, 1, none⟩ = some (.string n) := by rw [hb.cell (p := ⟨w.heap.size, 1, none⟩) (by simp)]; simp
  have c2 : w1.cell? ⟨w.heap.size, 2, none⟩ = some (.string t) := by rw [hb.cell (p := ⟨w.heap.size, 2, none⟩) (by simp)]; simp
  have hbw := Rg.chain (Rg.al1 w (.cells #[.int .i64 3, .string n, .string t, .string d] 87)) hb
  have q0 := hcell.out w1 hbw
  have hz : w.heap.size < w1.heap.size := by have := hb.size; simp at this; omega
  have hz2 : g < w1.heap.size := by omega
  have nn0 := World.new_ne w1 _ q0
  have nn1 := World.new_ne w1 _ c2
  clear hcell HF
  go_wp2
  go_big_region
  have m0 : (w1.alloc (.cells #[.string t, .string x] 84)).drew.cell? ⟨w1.heap.size, 0, none⟩ = some (.string t) := by simp
  have m1 : (w1.alloc (.cells #[.string t, .string x] 84)).drew.cell? ⟨w1.heap.size, 1, none⟩ = some (.string x) := by simp
  have hb2 : Below w.heap.size w (w1.alloc (.cells #[.string t, .string x] 84)).drew := (hbw.alloc hbw.size _).drew
  have hMg : w1.heap.size ≠ g := by omega
  clear nn0 nn1 q0 c0 c1 c2 hbw hb hz
  generalize (w1.alloc (.cells #[.string t, .string x] 84)).drew = w2 at *
  generalize w1.heap.size = M at *
  go_wp2
  go_region_with (first
    | (go_at_call 144; refine (HL.out _ ?_ M hMg ?_ ?_).mono ?_; (first | exact hb2 | exact hb2.drew); (first | exact m0 | assumption); (first | exact m1 | assumption); rintro e w3 ⟨rfl, ho, hb3, r0, r1⟩)
    | (go_at_call 143; refine (HP.out _ ?_ ?_).mono ?_; (first | exact ho | exact ho); (first | exact hb3 | exact hb3.drew); rintro e w4 ⟨v, rfl, h2, h3⟩))
  all_goals
    go_wp2
    go_ret
    exact ⟨v, rfl, h2, h3⟩

/-- do: the files behind an operation -/
theorem do_any (base : Nat) (v : Value) (l : List Dsk.Fl) (o : Dsk.Dop) (w : World) (hs : Dsk.Srt l) (hn : l.length ≤ 1000000000) (hu : Dsk.used l + o.d.size ≤ 1000000000000) (hB : base ≤ w.heap.size) (h : FOwn base w v l) :
    Calls Tryz.prog 118 #[v, .agg #[.int .i64 o.k, .string o.n, .string o.t, .string o.d]] w fun e w' => PutPost base w (Dsk.after l o) e w' := by
  obtain ⟨k, n, t, d⟩ := o
  dsimp only at *
  by_cases k1 : k = 1
  · exact do_write base v l k n t d w hs hn hB h k1
  by_cases k2 : k = 2
  · cases hh : Dsk.has l n
    · exact do_append_new base v l k n t d w hs hn hB h k2 hh
    · rcases h with ⟨_, rfl⟩ | ⟨g, cap, rest, rfl, h⟩
      · cases hh
      · subst k2; exact do_append base g cap l rest n t d w hs hn hB h hh hu
  by_cases k3 : k = 3
  · cases hh : Dsk.has l n
    · exact do_rename_none base v l k n t d w hs hn hB h k3 hh
    · by_cases ht : t = n
      · exact do_rename_same base v l k n t d w hs hn hB h k3 ht
      · rcases h with ⟨_, rfl⟩ | ⟨g, cap, rest, rfl, h⟩
        · cases hh
        · subst k3; exact do_rename base g cap l rest n t d w hs hn hB h hh ht
  by_cases k4 : k = 4
  · cases hh : Dsk.has l n
    · exact do_remove_none base v l k n t d w hs hn hB h k4 hh
    · rcases h with ⟨_, rfl⟩ | ⟨g, cap, rest, rfl, h⟩
      · cases hh
      · subst k4; exact do_remove base g cap l rest n t d w hs hn hB h hh
  exact do_else base v l k n t d w hs hn hB h k1 k2 k3 k4
end Go.Proofs.YtmilfamjkiemaaaGreatDoor

namespace Go.Proofs.YtmilfamjkiemaaaGreatDoor
open Go.RowKit

namespace Dsk
theorem behind_take (l : List Fl) (ops : List Dop) (i : Nat) (h : i < ops.length) : behind l (ops.take (i + 1)) = after (behind l (ops.take i)) ops[i] := by
  rw [List.take_succ_eq_append_getElem h, behind_snoc]
theorem wt_take (ops : List Dop) (i : Nat) (h : i < ops.length) : wt (ops.take i) + ops[i].d.size + 16 ≤ wt ops := by
  have e : ops = ops.take i ++ ops[i] :: ops.drop (i + 1) := by rw [← List.drop_eq_getElem_cons h, List.take_append_drop]
  have := wt_append (ops.take i) (ops[i] :: ops.drop (i + 1))
  rw [← e, wt] at this
  omega
end Dsk

set_option maxHeartbeats 2000000 in
set_option maxRecDepth 100000 in
theorem behind_any (sa : Option Addr) (sc : Nat) (oa : Option Addr) (oc : Nat) (safe : List Dsk.Fl) (ops : List Dsk.Dop) (w : World) (hs : Dsk.Srt safe) (hu : Dsk.used safe + Dsk.wt ops ≤ 10000000000) (hS : fileE.Row w sa safe) (hO : opE.Row w oa ops) :
    Calls Tryz.prog 81 #[.slice sa safe.length sc, .slice oa ops.length oc] w fun e w' => PutPost w.heap.size w (Dsk.behind safe ops) e w' := by
  have hsl := Dsk.len_used safe
  have hol := Dsk.len_wt ops
  have HC : Hid (Calls Tryz.prog 117 #[.slice sa safe.length sc] w fun e w' => ClonePost w safe e w') := clone_any sa sc safe w (by omega) hS
  obtain ⟨N, hN⟩ : ∃ N, N = ops.length := ⟨_, rfl⟩
  have hN1 : N ≤ 1000000000 := by omega
  have HD : Hid (∀ (i : Nat) (h : i < ops.length) (v : Value) (W : World), w.heap.size ≤ W.heap.size → FOwn w.heap.size W v (Dsk.behind safe (ops.take i)) → Calls Tryz.prog 118 #[v, .agg #[.int .i64 ops[i].k, .string ops[i].n, .string ops[i].t, .string ops[i].d]] W fun e w' => PutPost w.heap.size W (Dsk.behind safe (ops.take (i + 1))) e w') := fun i h v W h1 h2 => by
    have e1 := Dsk.used_behind safe (ops.take i)
    have e2 := Dsk.wt_take ops i h
    have e3 := Dsk.len_used (Dsk.behind safe (ops.take i))
    rw [Dsk.behind_take safe ops i h]
    exact do_any w.heap.size v _ ops[i] W (Dsk.behind_srt _ hs) (by omega) (by omega) h1 h2
  have hO' := Rg.hid hO
  rw [← hN]
  replace hN := Rg.hid hN
  generalize safe.length = SN at *
  clear hO hS hs hu hsl hol
  go_enter Tryz.func81, Tryz.ntmps81
  go_wp2_with (go_at_call 117; refine HC.out.mono ?_)
  rintro e w1 ⟨v0, rfl, h0, hb0⟩
  have h0' : Hid (FOwn w.heap.size w1 v0 (Dsk.behind safe (ops.take 0))) := h0
  clear h0 HC
  go_wp2
  go_loopw [5, 12] (fun v vi wr => ∃ i : Nat, i ≤ N ∧ vi = .int .i64 i ∧ Hid (FOwn w.heap.size wr v (Dsk.behind safe (ops.take i))) ∧ Below w.heap.size w wr) (fun _ vi _ => N - (intOf vi).toNat)
  case atStart => exact ⟨0, Nat.zero_le _, rfl, h0', hb0⟩
  case round =>
    obtain ⟨i, hin, rfl, hown, hbw⟩ := hrel
    by_cases hlt : i < N
    · have hil : i < ops.length := by rw [← hN.out]; exact hlt
      obtain ⟨b, o, rfl, hb, hat⟩ : ∃ b o, oa = some ⟨b, o, none⟩ ∧ b < w.heap.size ∧ Rg.At w b o (opE.flat ops) := by
        rcases hO'.out with ⟨_, h⟩ | h
        · rw [h] at hil; simp at hil
        · exact h
      have HD' := Rg.hid (HD.out i hil)
      have at1 : Rg.At wr b (o + i * 4) (opE.enc ops[i]) := (hat.elem hil).below hbw hb
      generalize ops[i] = x at *
      obtain ⟨xk, xn, xt, xd⟩ := x
      obtain ⟨c0, c1, c2, c3⟩ := op_at at1
      dsimp only at HD'
      have hz0 : (0 : Int) ≤ (i : Int) := by omega
      have hz1 : (i : Int) < (N : Int) := by omega
      have hsz := hbw.size
      clear at1 hat hil HD hO'
      have HD2 := Rg.hid (HD'.out _ (wr.alloc (.cells #[.int .i64 xk, .string xn, .string xt, .string xd] 87)) (by simp; omega) (hown.out.below (Rg.al1 _ _)))
      go_wp2_with (go_at_call 118; refine HD2.out.mono ?_)
      rintro e w2 ⟨v2, rfl, h2, h3⟩
      have h2' := Rg.hid h2
      clear h2
      go_wp2
      go_roundw
      case rel => exact ⟨i + 1, by omega, by go_num, h2', (hbw.alloc hbw.size _).trans h3⟩
      case measure => simp [intOf]; omega
    · obtain rfl : i = N := by omega
      go_wp2
      go_ret
      refine ⟨_, rfl, ?_, hbw⟩
      have := hown.out
      rw [List.take_of_length_le (by rw [← hN.out]; exact Nat.le_refl _)] at this
      exact this

namespace Dsk
/-- P6.2: the files -/
def files (d : Dk) : List Fl := if d.down = true then [] else behind d.safe d.ops
/-- what is kept in bounds -/
structure Ok (d : Dk) : Prop where
  srt : Srt d.safe
  wt : used d.safe + wt d.ops ≤ 10000000000
  fuse : -1 ≤ d.fuse
  fuse' : d.fuse ≤ 9223372036854775807
theorem Ok.files {d : Dk} (h : Ok d) : used (Dsk.files d) ≤ 10000000000 := by
  unfold Dsk.files
  split
  · exact Nat.zero_le _
  · have := used_behind d.safe d.ops; have := h.wt; omega
theorem Ok.fsrt {d : Dk} (h : Ok d) : Srt (Dsk.files d) := by
  unfold Dsk.files
  split
  · exact List.Pairwise.nil
  · exact behind_srt _ h.srt
end Dsk

set_option maxHeartbeats 1000000 in
theorem files_any (v : Value) (d : Dsk.Dk) (w : World) (hd : Dsk.Ok d) (h : DAt w v d) :
    Calls Tryz.prog 44 #[v] w fun e w' => PutPost w.heap.size w (Dsk.files d) e w' := by
  obtain ⟨sa, sc, oa, oc, rfl, hS, hO, hsc, hoc⟩ := h
  obtain ⟨safe, ops, cap, fuse, down⟩ := d
  unfold dval
  dsimp only at *
  cases down
  · have HB : Hid (∀ W, Below w.heap.size w W → Calls Tryz.prog 81 #[.slice sa safe.length sc, .slice oa ops.length oc] W fun e w' => PutPost w.heap.size w (Dsk.files ⟨safe, ops, cap, fuse, false⟩) e w') := fun W hW => (behind_any sa sc oa oc safe ops W hd.srt hd.wt (hS.below hW) (hO.below hW)).mono fun e w' ⟨v, h1, h2, h3⟩ => ⟨v, h1, h2.mono hW.size, hW.trans (h3.mono hW.size)⟩
    generalize Dsk.files ⟨safe, ops, cap, fuse, false⟩ = l at *
    generalize safe.length = SN at *
    generalize ops.length = ON at *
    clear hS hO hd
    go_enter Tryz.func44, Tryz.ntmps44
    go_wp2_with (go_at_call 81; refine (HB.out _ (Rg.al1 _ _)).mono ?_)
    rintro e w2 ⟨v, rfl, h2, h3⟩
    go_wp2
    go_ret
    exact ⟨v, rfl, h2, h3⟩
  · generalize safe.length = SN at *
    generalize ops.length = ON at *
    go_enter Tryz.func44, Tryz.ntmps44
    go_wp2
    go_ret
    exact ⟨_, rfl, .inl ⟨rfl, rfl⟩, Rg.al1 _ _⟩

theorem used_take (l : List Dsk.Fl) (i : Nat) (h : i < l.length) : Dsk.used (l.take (i + 1)) = Dsk.used (l.take i) + l[i].d.size + 16 := by
  rw [List.take_succ_eq_append_getElem h, Dsk.used_append, Dsk.used, Dsk.used]; omega
theorem used_take_le (l : List Dsk.Fl) (i : Nat) : Dsk.used (l.take i) ≤ Dsk.used l := by
  have := Dsk.used_append (l.take i) (l.drop i)
  rw [List.take_append_drop] at this; omega

set_option maxHeartbeats 2000000 in
theorem used_any (v : Value) (d : Dsk.Dk) (w : World) (hd : Dsk.Ok d) (h : DAt w v d) :
    Calls Tryz.prog 87 #[v] w fun e w' => e = .returned (.int .i64 (Dsk.used (Dsk.files d))) ∧ Below w.heap.size w w' := by
  have HF : Hid (∀ W, Below w.heap.size w W → Calls Tryz.prog 44 #[v] W fun e w' => PutPost w.heap.size w (Dsk.files d) e w') := fun W hW => (files_any v d W hd (h.below hW)).mono fun e w' ⟨v, h1, h2, h3⟩ => ⟨v, h1, h2.mono hW.size, hW.trans (h3.mono hW.size)⟩
  obtain ⟨sa, sc, oa, oc, rfl, hS, hO, hsc, hoc⟩ := h
  have hul := hd.files
  have hll := Dsk.len_used (Dsk.files d)
  generalize Dsk.files d = l at *
  obtain ⟨safe, ops, cap, fuse, down⟩ := d
  unfold dval at *
  dsimp only at *
  generalize safe.length = SN at *
  generalize ops.length = ON at *
  clear hS hO hd
  go_enter Tryz.func87, Tryz.ntmps87
  go_wp2_with (go_at_call 44; refine (HF.out _ (Rg.al1 _ _)).mono ?_)
  rintro e w2 ⟨v, rfl, h2, h3⟩
  obtain ⟨a, c, rfl, hrow⟩ := h2.shape
  replace hrow := Rg.hid hrow
  obtain ⟨N, hN⟩ : ∃ N, N = l.length := ⟨_, rfl⟩
  rw [← hN] at hll ⊢
  replace hN := Rg.hid hN
  clear h2 HF
  go_wp2
  go_loopw [3, 9] (fun vu vi wr => ∃ (i u : Nat), i ≤ N ∧ u ≤ 10000000000 ∧ vi = .int .i64 i ∧ vu = .int .i64 u ∧ Hid (u = Dsk.used (l.take i)) ∧ Below w2.heap.size w2 wr) (fun _ vi _ => N - (intOf vi).toNat)
  case atStart => exact ⟨0, 0, Nat.zero_le _, Nat.zero_le _, rfl, rfl, rfl, Below.refl _ _⟩
  case round =>
    obtain ⟨i, u, hin, hub, rfl, rfl, huu, hbw⟩ := hrel
    by_cases hlt : i < N
    · have hil : i < l.length := by rw [← hN.out]; exact hlt
      obtain ⟨b, o, rfl, hb, hat⟩ : ∃ b o, a = some ⟨b, o, none⟩ ∧ b < w2.heap.size ∧ Rg.At w2 b o (fileE.flat l) := by
        rcases hrow.out with ⟨_, h⟩ | h
        · rw [h] at hil; simp at hil
        · exact h
      have hnx := used_take l i hil
      have hle := used_take_le l (i + 1)
      have at1 : Rg.At wr b (o + i * 2) (fileE.enc l[i]) := (hat.elem hil).below hbw hb
      generalize l[i] = x at *
      obtain ⟨xn, xd⟩ := x
      obtain ⟨c0, c1⟩ := file_at at1
      dsimp only at hnx
      have hz0 : (0 : Int) ≤ (i : Int) := by omega
      have hz1 : (i : Int) < (N : Int) := by omega
      have hsum : Hid (u + (xd.size + 16) = Dsk.used (l.take (i + 1))) := by show _ = _; have := huu.out; omega
      have hsum2 : u + xd.size + 16 ≤ 10000000000 := by have := hsum.out; omega
      clear at1 hat hil hrow hnx hle
      go_wp2
      go_roundw
      case rel => exact ⟨i + 1, u + (xd.size + 16), by omega, by omega, by go_num, by go_num, hsum, hbw.alloc hbw.size _⟩
      case measure => simp [intOf]; omega
    · obtain rfl : i = N := by omega
      go_wp2
      go_ret
      refine ⟨ret_int ?_, Rg.chain h3 hbw⟩
      rw [huu.out, List.take_of_length_le (by rw [← hN.out]; exact Nat.le_refl _)]
end Go.Proofs.YtmilfamjkiemaaaGreatDoor
