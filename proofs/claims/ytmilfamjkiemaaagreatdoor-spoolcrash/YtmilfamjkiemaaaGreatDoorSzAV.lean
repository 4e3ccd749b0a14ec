/-
  Walks of layer 5: read. Walks of layer 5: Parse.
-/
import Derived.Test.YtmilfamjkiemaaaGreatDoorSzAU
namespace Go.Proofs.YtmilfamjkiemaaaGreatDoor
open Go.RowKit

/-- the job's value -/
def jv (j : Job.Jb) : Value := .agg #[.int .i64 j.g, .int .i64 j.n, .int .i64 j.k, .string j.u, .string j.f, .string j.t, .string j.c, .int .i64 j.z]
abbrev zcells : Array Value := #[.int .i64 0, .int .i64 0, .int .i64 0, .string ⟨#[]⟩, .string ⟨#[]⟩, .string ⟨#[]⟩, .string ⟨#[]⟩, .int .i64 0]

theorem Blk.set8 {b : Nat} {u0 u1 u2 u3 u4 u5 u6 u7 : Value} {W : World} (h : Blk b #[u0, u1, u2, u3, u4, u5, u6, u7] W) (v0 v1 v2 v3 v4 v5 v6 v7 : Value) :
    Blk b #[v0, v1, v2, v3, v4, v5, v6, v7] ((((((((W.setCell ⟨b, 0, none⟩ v0).setCell ⟨b, 1, none⟩ v1).setCell ⟨b, 2, none⟩ v2).setCell ⟨b, 3, none⟩ v3).setCell ⟨b, 4, none⟩ v4).setCell ⟨b, 5, none⟩ v5).setCell ⟨b, 6, none⟩ v6).setCell ⟨b, 7, none⟩ v7) :=
  (((((((h.set (i := 0) (by simp) v0).set (i := 1) (by simp) v1).set (i := 2) (by simp) v2).set (i := 3) (by simp) v3).set (i := 4) (by simp) v4).set (i := 5) (by simp) v5).set (i := 6) (by simp) v6).set (i := 7) (by simp) v7
theorem below_set8 {b B : Nat} {w W : World} (h : Below B w W) (hB : B ≤ b) (v0 v1 v2 v3 v4 v5 v6 v7 : Value) : Below B w ((((((((W.setCell ⟨b, 0, none⟩ v0).setCell ⟨b, 1, none⟩ v1).setCell ⟨b, 2, none⟩ v2).setCell ⟨b, 3, none⟩ v3).setCell ⟨b, 4, none⟩ v4).setCell ⟨b, 5, none⟩ v5).setCell ⟨b, 6, none⟩ v6).setCell ⟨b, 7, none⟩ v7) :=
  (((((((h.setCell hB v0).setCell hB v1).setCell hB v2).setCell hB v3).setCell hB v4).setCell hB v5).setCell hB v6).setCell hB v7

set_option maxHeartbeats 1000000 in
theorem read_short (s : ByteArray) (w : World) (hw : Ok w) (hs : s.size ≤ 1000000) (h : (Job.wds s).length < 6) :
    Calls Tryz.prog 116 #[.string s] w fun e w' => e = .returned (jv Job.zero) ∧ Below w.heap.size w w' := by
  have bw : Below w.heap.size w (w.alloc (.cells zcells 33)) := below_alloc1 w _
  have hB0 : Blk w.heap.size zcells (w.alloc (.cells zcells 33)) := heap_alloc_new w _
  have HS := splitN_any s (w.alloc (.cells zcells 33)) (hw.below bw).max hs
  have HS' : Hid (Calls Tryz.prog 141 #[.string s, .string ⟨#[32]⟩, .int .i64 7] (w.alloc (.cells zcells 33)) fun e w' => e = .returned (.slice (some ⟨(w.alloc (.cells zcells 33)).heap.size, 0, none⟩) (Job.wds s).length (min 7 (s.size + 1))) ∧ Below w.heap.size w w' ∧ Blk w.heap.size zcells w') :=
    HS.mono fun e w' ⟨h1, h2, h3, h4⟩ => ⟨h1, bw.trans (h2.mono bw.size), hB0.below h2 (by simp)⟩
  have hd : decide (((Job.wds s).length : Int) < 6) = true := by simp; omega
  generalize (Job.wds s).length = m at *
  clear HS hw hs
  go_enter Tryz.func116, Tryz.ntmps116
  go_wp2_with (go_at_call 141; refine HS'.out.mono ?_; rintro e w' ⟨rfl, b', k'⟩; have c' := k'.cell; have f' := k'.thaw; have z' := k'.lt)
  have kE := k'.set8 (.int .i64 0) (.int .i64 0) (.int .i64 0) (.string ⟨#[]⟩) (.string ⟨#[]⟩) (.string ⟨#[]⟩) (.string ⟨#[]⟩) (.int .i64 0)
  have bE := below_set8 b' (Nat.le_refl _) (.int .i64 0) (.int .i64 0) (.int .i64 0) (.string ⟨#[]⟩) (.string ⟨#[]⟩) (.string ⟨#[]⟩) (.string ⟨#[]⟩) (.int .i64 0)
  clear c' f' z' k' b' hB0 bw HS'
  generalize World.setCell _ _ _ = WE at *
  have cE := kE.cell
  exact bodyPost_ret (v := jv Job.zero) (by simp [results, Tryz.results116, go_sem, cE, jv, Job.zero]) rfl ⟨rfl, bE⟩

/-- the words' cells -/
def Row7 (b m : Nat) (A0 A1 A2 A3 A4 A5 A6 : ByteArray) (W : World) : Prop :=
  W.cell? ⟨b, 0, none⟩ = some (.string A0) ∧ W.cell? ⟨b, 1, none⟩ = some (.string A1) ∧ W.cell? ⟨b, 2, none⟩ = some (.string A2) ∧ W.cell? ⟨b, 3, none⟩ = some (.string A3) ∧
  W.cell? ⟨b, 4, none⟩ = some (.string A4) ∧ W.cell? ⟨b, 5, none⟩ = some (.string A5) ∧ (m = 7 → W.cell? ⟨b, 6, none⟩ = some (.string A6))
theorem Row7.below {b m B : Nat} {A0 A1 A2 A3 A4 A5 A6 : ByteArray} {W W' : World} (h : Row7 b m A0 A1 A2 A3 A4 A5 A6 W) (hb : Below B W W') (hB : b < B) : Row7 b m A0 A1 A2 A3 A4 A5 A6 W' := by
  have e (o : Nat) : W'.cell? ⟨b, o, none⟩ = W.cell? ⟨b, o, none⟩ := hb.cell (p := ⟨b, o, none⟩) hB
  unfold Row7 at *
  simp only [e]
  exact h
theorem row7_of {b : Nat} {l : List ByteArray} {W : World} (h : Texts W b l) (h6 : 6 ≤ l.length) (h7 : l.length ≤ 7) : Row7 b l.length (Job.at' l 0) (Job.at' l 1) (Job.at' l 2) (Job.at' l 3) (Job.at' l 4) (Job.at' l 5) (Job.at' l 6) W := by
  have e (i : Nat) (hi : i < l.length) : W.cell? ⟨b, i, none⟩ = some (.string (Job.at' l i)) := by
    rw [h i hi]; unfold Job.at'; rw [List.getElem?_eq_getElem hi]; rfl
  exact ⟨e 0 (by omega), e 1 (by omega), e 2 (by omega), e 3 (by omega), e 4 (by omega), e 5 (by omega), fun _ => e 6 (by omega)⟩
theorem at_size {l : List ByteArray} {n : Nat} (h : ∀ x ∈ l, x.size ≤ n) (i : Nat) : (Job.at' l i).size ≤ n := by
  unfold Job.at'
  cases hi : l[i]? with
  | none => exact Nat.zero_le _
  | some x => exact h x (List.mem_of_getElem? hi)

set_option maxHeartbeats 4000000 in
set_option maxRecDepth 100000 in
theorem read_long (s : ByteArray) (w : World) (hw : Ok w) (hs : s.size ≤ 1000000) (h6 : 6 ≤ (Job.wds s).length) :
    Calls Tryz.prog 116 #[.string s] w fun e w' => e = .returned (jv (Job.parse s.data.toList).1) ∧ Below w.heap.size w w' := by
  have bw : Below w.heap.size w (w.alloc (.cells zcells 33)) := below_alloc1 w _
  have hB0 : Blk w.heap.size zcells (w.alloc (.cells zcells 33)) := heap_alloc_new w _
  have h7 := Nat.le_trans (Job.wds_len s) (Nat.min_le_left _ _)
  have hz0 := at_size (fun x hx => Job.wds_size (s := s) (x := x) hx) 0
  have hz1 := at_size (fun x hx => Job.wds_size (s := s) (x := x) hx) 1
  have hz2 := at_size (fun x hx => Job.wds_size (s := s) (x := x) hx) 2
  have hz3 := at_size (fun x hx => Job.wds_size (s := s) (x := x) hx) 3
  have hz4 := at_size (fun x hx => Job.wds_size (s := s) (x := x) hx) 4
  have hz5 := at_size (fun x hx => Job.wds_size (s := s) (x := x) hx) 5
  have hz6 := at_size (fun x hx => Job.wds_size (s := s) (x := x) hx) 6
  have hs6 : (Job.wds s).length = 6 → Job.at' (Job.wds s) 6 = ⟨#[]⟩ := fun h => by unfold Job.at'; rw [List.getElem?_eq_none (by omega)]; rfl
  have HS := splitN_any s (w.alloc (.cells zcells 33)) (hw.below bw).max hs
  have HS' : Hid (Calls Tryz.prog 141 #[.string s, .string ⟨#[32]⟩, .int .i64 7] (w.alloc (.cells zcells 33)) fun e w' => e = .returned (.slice (some ⟨(w.alloc (.cells zcells 33)).heap.size, 0, none⟩) (Job.wds s).length (min 7 (s.size + 1))) ∧ Below w.heap.size w w' ∧ Blk w.heap.size zcells w' ∧ w.heap.size + 1 < w'.heap.size ∧ Row7 (w.heap.size + 1) (Job.wds s).length (Job.at' (Job.wds s) 0) (Job.at' (Job.wds s) 1) (Job.at' (Job.wds s) 2) (Job.at' (Job.wds s) 3) (Job.at' (Job.wds s) 4) (Job.at' (Job.wds s) 5) (Job.at' (Job.wds s) 6) w') :=
    HS.mono fun e w' ⟨h1, h2, h3, h4⟩ => ⟨h1, bw.trans (h2.mono bw.size), hB0.below h2 (by simp), by simpa using h3, row7_of (by simpa using h4) h6 h7⟩
  have hP1 : Hid (Job.chk (Job.cand (Job.wds s)) = 0 → Job.txt (Job.cand (Job.wds s)) = s.data.toList → Job.parse s.data.toList = (Job.cand (Job.wds s), 0)) := Job.parse_at
  have hP2 : Hid (¬ (Job.chk (Job.cand (Job.wds s)) = 0 ∧ Job.txt (Job.cand (Job.wds s)) = s.data.toList) → Job.parse s.data.toList = (Job.zero, 3)) := Job.parse_bad
  have hcd : Job.cand (Job.wds s) = ⟨(Nam.pid (Job.at' (Job.wds s) 1).data.toList).1, (Nam.pid (Job.at' (Job.wds s) 1).data.toList).2.1, Job.kof (Job.at' (Job.wds s) 0).data.toList, Job.at' (Job.wds s) 2, Job.at' (Job.wds s) 3, Job.at' (Job.wds s) 4, Job.at' (Job.wds s) 6, ((Oct.number (Job.at' (Job.wds s) 5).data.toList).1 : Int)⟩ := rfl
  rw [hcd] at hP1 hP2
  clear hcd HS
  generalize Job.at' (Job.wds s) 0 = A0 at *
  generalize Job.at' (Job.wds s) 1 = A1 at *
  generalize Job.at' (Job.wds s) 2 = A2 at *
  generalize Job.at' (Job.wds s) 3 = A3 at *
  generalize Job.at' (Job.wds s) 4 = A4 at *
  generalize Job.at' (Job.wds s) 5 = A5 at *
  generalize Job.at' (Job.wds s) 6 = A6 at *
  generalize (Job.wds s).length = m at *
  have HK : Hid (∀ W, Calls Tryz.prog 142 #[.string A0] W fun e w' => e = .returned (.int .i64 (Job.kof A0.data.toList)) ∧ w' = W) := fun W => kindOf_any A0 W
  have HI : Hid (∀ W, Calls Tryz.prog 127 #[.string A1] W fun e w' => e = .returned (.tuple #[.agg #[.int .i64 (Nam.pid A1.data.toList).1, .int .i64 (Nam.pid A1.data.toList).2.1], .int .i64 (Nam.pid A1.data.toList).2.2]) ∧ Below W.heap.size W w') := fun W => parseId_any A1 W (by unfold maxLen; omega)
  have HN : Hid (∀ W, Calls Tryz.prog 86 #[.string A5] W fun e w' => e = .returned (.tuple #[.int .i64 ((Oct.number A5.data.toList).1 : Int), .int .i64 ((Oct.number A5.data.toList).2 : Int)]) ∧ w' = W) := fun W => number_any A5 W (by unfold maxLen; omega)
  generalize (Nam.pid A1.data.toList).1 = g at *
  generalize (Nam.pid A1.data.toList).2.1 = n at *
  generalize (Nam.pid A1.data.toList).2.2 = e1 at *
  generalize Job.kof A0.data.toList = k at *
  generalize ((Oct.number A5.data.toList).1 : Int) = z at *
  generalize ((Oct.number A5.data.toList).2 : Int) = e2 at *
  have HT : Hid (∀ W, Below w.heap.size w W → Calls Tryz.prog 32 #[.agg #[.int .i64 g, .int .i64 n, .int .i64 k, .string A2, .string A3, .string A4, .string A6, .int .i64 z]] W fun e w' => e = .returned (.tuple #[.string ⟨(Job.text ⟨g, n, k, A2, A3, A4, A6, z⟩).1.toArray⟩, .int .i64 ((Job.text ⟨g, n, k, A2, A3, A4, A6, z⟩).2 : Nat)]) ∧ Below W.heap.size W w') := fun W hW => jtext_any g n k A2 A3 A4 A6 z W (hw.below hW) (by unfold maxLen; omega) (by unfold maxLen; omega) (by unfold maxLen; omega) (by unfold maxLen; omega)
  have hd : decide ((m : Int) < 6) = false := by simp; omega
  have i0 : (0 : Int) < (m : Int) := by omega
  have i0' : 0 < m := by omega
  have i1 : (1 : Int) < (m : Int) := by omega
  have i2 : (2 : Int) < (m : Int) := by omega
  have i3 : (3 : Int) < (m : Int) := by omega
  have i4 : (4 : Int) < (m : Int) := by omega
  have i5 : (5 : Int) < (m : Int) := by omega
  clear hw hs hz0 hz1 hz2 hz3 hz4 hz5 hz6 hB0
  go_enter Tryz.func116, Tryz.ntmps116
  go_upto_region 4 with (go_at_call 141; refine HS'.out.mono ?_; rintro e w1 ⟨rfl, b1, k1, z1, t0, t1, t2, t3, t4, t5, t6⟩)
  go_cut [4] (fun s4 wx => ∃ b, s4 = .pointer (some ⟨b, 0, none⟩) ∧ w1.heap.size ≤ b ∧ Below w1.heap.size w1 wx ∧ Blk b #[.int .i64 0, .int .i64 0, .int .i64 k, .string A2, .string A3, .string A4, .string ⟨#[]⟩, .int .i64 0] wx)
  case first =>
    go_region_held3 (fun w' => w'.cell? ⟨w.heap.size + 1, 0, none⟩ = some (.string A0) ∧ w'.cell? ⟨w.heap.size + 1, 2, none⟩ = some (.string A2) ∧ w'.cell? ⟨w.heap.size + 1, 3, none⟩ = some (.string A3) ∧ w'.cell? ⟨w.heap.size + 1, 4, none⟩ = some (.string A4)) (go_keep) (first | (go_at_call 142; refine (HK.out _).mono ?_; rintro e w'' ⟨rfl, rfl⟩))
    all_goals (go_wp2_with fail; go_meet)
    all_goals exact ⟨_, rfl, Nat.le_refl _, (below_alloc1 _ _).drew, heap_alloc_new _ _⟩
  case rest =>
    obtain ⟨b, rfl, hb, bX, kX⟩ := hcut
    have bw1 : Below w.heap.size w wc := b1.trans (bX.mono b1.size)
    have kR := k1.below bX (by omega)
    have hrow : Hid (Row7 (w.heap.size + 1) m A0 A1 A2 A3 A4 A5 A6 wc) := Row7.below ⟨t0, t1, t2, t3, t4, t5, t6⟩ bX z1
    have hbw : w.heap.size ≤ b := by omega
    have hbR : b ≠ w.heap.size := by omega
    have hn1 : ¬ (b = w.heap.size + 1) := by omega
    have hn2 : ¬ (w.heap.size + 1 = b) := by omega
    obtain ⟨r0, r1, r2, r3, r4, r5, r6⟩ := hrow.out
    have zw : w.heap.size + 1 < wc.heap.size := by have := bX.size; omega
    have cX := kX.cell
    have fX := kX.thaw
    have zX := kX.lt
    clear t0 t1 t2 t3 t4 t5 t6 k1
    go_upto_region 6 with (go_at_call 127; refine (HI.out _).mono ?_; rintro e w2 ⟨rfl, b2⟩; have kX2 := kX.below b2 zX; have kR2 := kR.below b2 kR.lt; have b2w := bw1.trans (b2.mono bw1.size); obtain ⟨q0, q1, q2, q3, q4, q5, q6⟩ := hrow.out.below b2 zw; have c2 := kX2.cell; have f2 := kX2.thaw; have z2 := kX2.lt)
    clear r0 r1 r2 r3 r4 r5 r6 cX fX zX
    obtain rfl | rfl : m = 6 ∨ m = 7 := by omega
    · obtain rfl := hs6 rfl
      clear q6 hs6
      have HT2 : Hid (Calls Tryz.prog 32 #[.agg #[.int .i64 g, .int .i64 n, .int .i64 k, .string A2, .string A3, .string A4, .string ⟨#[]⟩, .int .i64 z]] (((w2.setCell ⟨b, 0, none⟩ (.int .i64 g)).setCell ⟨b, 1, none⟩ (.int .i64 n)).setCell ⟨b, 7, none⟩ (.int .i64 z)) fun e w' => e = .returned (.tuple #[.string ⟨(Job.text ⟨g, n, k, A2, A3, A4, ⟨#[]⟩, z⟩).1.toArray⟩, .int .i64 ((Job.text ⟨g, n, k, A2, A3, A4, ⟨#[]⟩, z⟩).2 : Nat)]) ∧ Below w.heap.size w w' ∧ Blk w.heap.size zcells w' ∧ Blk b #[.int .i64 g, .int .i64 n, .int .i64 k, .string A2, .string A3, .string A4, .string ⟨#[]⟩, .int .i64 z] w') :=
        (HT.out _ (((b2w.setCell (p := ⟨b, 0, none⟩) hbw (.int .i64 g)).setCell (p := ⟨b, 1, none⟩) hbw (.int .i64 n)).setCell (p := ⟨b, 7, none⟩) hbw (.int .i64 z))).mono fun e w' ⟨h1, h2⟩ => ⟨h1, (((b2w.setCell (p := ⟨b, 0, none⟩) hbw (.int .i64 g)).setCell (p := ⟨b, 1, none⟩) hbw (.int .i64 n)).setCell (p := ⟨b, 7, none⟩) hbw (.int .i64 z)).trans (h2.mono (((b2w.setCell (p := ⟨b, 0, none⟩) hbw (.int .i64 g)).setCell (p := ⟨b, 1, none⟩) hbw (.int .i64 n)).setCell (p := ⟨b, 7, none⟩) hbw (.int .i64 z)).size), Blk.below (((kR2.other (i := 0) hbR (.int .i64 g)).other (i := 1) hbR (.int .i64 n)).other (i := 7) hbR (.int .i64 z)) h2 (by simpa using kR2.lt), Blk.below (C := #[.int .i64 g, .int .i64 n, .int .i64 k, .string A2, .string A3, .string A4, .string ⟨#[]⟩, .int .i64 z]) (((kX2.set (i := 0) (by simp) (.int .i64 g)).set (i := 1) (by simp) (.int .i64 n)).set (i := 7) (by simp) (.int .i64 z)) h2 (by simpa using kX2.lt)⟩
      by_cases hq : Job.chk ⟨g, n, k, A2, A3, A4, ⟨#[]⟩, z⟩ = 0
      · have ht : Job.text ⟨g, n, k, A2, A3, A4, ⟨#[]⟩, z⟩ = (Job.txt ⟨g, n, k, A2, A3, A4, ⟨#[]⟩, z⟩, 0) := by unfold Job.text; rw [if_pos hq]
        rw [ht] at HT2
        by_cases hx : Job.txt ⟨g, n, k, A2, A3, A4, ⟨#[]⟩, z⟩ = s.data.toList
        · have hr : Hid (Job.parse s.data.toList = (⟨g, n, k, A2, A3, A4, ⟨#[]⟩, z⟩, 0)) := hP1.out hq hx
          have hx2 : ((⟨(Job.txt ⟨g, n, k, A2, A3, A4, ⟨#[]⟩, z⟩).toArray⟩ : ByteArray).toList == s.toList) = true := by rw [tl_eq, tl_eq]; exact beq_iff_eq.2 hx
          generalize (⟨(Job.txt ⟨g, n, k, A2, A3, A4, ⟨#[]⟩, z⟩).toArray⟩ : ByteArray) = X at *
          clear hq hx ht hP1 hP2 HT HI
          go_wp2_with (first
            | (go_at_call 86; refine (HN.out _).mono ?_; rintro e w' ⟨rfl, rfl⟩)
            | (go_at_call 32; refine HT2.out.mono ?_; rintro e w3 ⟨rfl, b3, kR3, kJ3⟩; have c3 := kR3.cell; have f3 := kR3.thaw; have z3 := kR3.lt; have c4 := kJ3.cell; have f4 := kJ3.thaw; have z4 := kJ3.lt))
          have kE := kR3.set8 (.int .i64 g) (.int .i64 n) (.int .i64 k) (.string A2) (.string A3) (.string A4) (.string ⟨#[]⟩) (.int .i64 z)
          have bE := below_set8 b3 (Nat.le_refl _) (.int .i64 g) (.int .i64 n) (.int .i64 k) (.string A2) (.string A3) (.string A4) (.string ⟨#[]⟩) (.int .i64 z)
          clear c3 f3 z3 c4 f4 z4 kR3 kJ3 b3
          generalize World.setCell _ _ _ = WE at *
          have cE := kE.cell
          exact bodyPost_ret (v := jv ⟨g, n, k, A2, A3, A4, ⟨#[]⟩, z⟩) (by simp [results, Tryz.results116, go_sem, cE, jv]) rfl ⟨by rw [hr.out], bE⟩
        · have hr : Hid (Job.parse s.data.toList = (Job.zero, 3)) := hP2.out fun h => hx h.2
          have hx2 : ((⟨(Job.txt ⟨g, n, k, A2, A3, A4, ⟨#[]⟩, z⟩).toArray⟩ : ByteArray).toList == s.toList) = false := by rw [tl_eq, tl_eq]; exact beq_eq_false_iff_ne.2 hx
          generalize (⟨(Job.txt ⟨g, n, k, A2, A3, A4, ⟨#[]⟩, z⟩).toArray⟩ : ByteArray) = X at *
          clear hq hx ht hP1 hP2 HT HI
          go_wp2_with (first
            | (go_at_call 86; refine (HN.out _).mono ?_; rintro e w' ⟨rfl, rfl⟩)
            | (go_at_call 32; refine HT2.out.mono ?_; rintro e w3 ⟨rfl, b3, kR3, kJ3⟩; have c3 := kR3.cell; have f3 := kR3.thaw; have z3 := kR3.lt; have c4 := kJ3.cell; have f4 := kJ3.thaw; have z4 := kJ3.lt))
          have kE := kR3.set8 (.int .i64 0) (.int .i64 0) (.int .i64 0) (.string ⟨#[]⟩) (.string ⟨#[]⟩) (.string ⟨#[]⟩) (.string ⟨#[]⟩) (.int .i64 0)
          have bE := below_set8 b3 (Nat.le_refl _) (.int .i64 0) (.int .i64 0) (.int .i64 0) (.string ⟨#[]⟩) (.string ⟨#[]⟩) (.string ⟨#[]⟩) (.string ⟨#[]⟩) (.int .i64 0)
          clear c3 f3 z3 c4 f4 z4 kR3 kJ3 b3
          generalize World.setCell _ _ _ = WE at *
          have cE := kE.cell
          exact bodyPost_ret (v := jv Job.zero) (by simp [results, Tryz.results116, go_sem, cE, jv, Job.zero]) rfl ⟨by rw [hr.out], bE⟩
      · have ht : Job.text ⟨g, n, k, A2, A3, A4, ⟨#[]⟩, z⟩ = ([], Job.chk ⟨g, n, k, A2, A3, A4, ⟨#[]⟩, z⟩) := by unfold Job.text; rw [if_neg hq]
        rw [ht] at HT2
        have hr : Hid (Job.parse s.data.toList = (Job.zero, 3)) := hP2.out fun h => hq h.1
        obtain ⟨n1, n2, n3, n4⟩ := ne_facts hq
        generalize Job.chk ⟨g, n, k, A2, A3, A4, ⟨#[]⟩, z⟩ = q at *
        clear hq ht hP1 hP2 HT HI
        go_wp2_with (first
          | (go_at_call 86; refine (HN.out _).mono ?_; rintro e w' ⟨rfl, rfl⟩)
          | (go_at_call 32; refine HT2.out.mono ?_; rintro e w3 ⟨rfl, b3, kR3, kJ3⟩; have c3 := kR3.cell; have f3 := kR3.thaw; have z3 := kR3.lt; have c4 := kJ3.cell; have f4 := kJ3.thaw; have z4 := kJ3.lt))
        have kE := kR3.set8 (.int .i64 0) (.int .i64 0) (.int .i64 0) (.string ⟨#[]⟩) (.string ⟨#[]⟩) (.string ⟨#[]⟩) (.string ⟨#[]⟩) (.int .i64 0)
        have bE := below_set8 b3 (Nat.le_refl _) (.int .i64 0) (.int .i64 0) (.int .i64 0) (.string ⟨#[]⟩) (.string ⟨#[]⟩) (.string ⟨#[]⟩) (.string ⟨#[]⟩) (.int .i64 0)
        clear c3 f3 z3 c4 f4 z4 kR3 kJ3 b3
        generalize World.setCell _ _ _ = WE at *
        have cE := kE.cell
        exact bodyPost_ret (v := jv Job.zero) (by simp [results, Tryz.results116, go_sem, cE, jv, Job.zero]) rfl ⟨by rw [hr.out], bE⟩
    · have q7 := q6 rfl
      clear q6 hs6
      have HT2 : Hid (Calls Tryz.prog 32 #[.agg #[.int .i64 g, .int .i64 n, .int .i64 k, .string A2, .string A3, .string A4, .string A6, .int .i64 z]] ((((w2.setCell ⟨b, 0, none⟩ (.int .i64 g)).setCell ⟨b, 1, none⟩ (.int .i64 n)).setCell ⟨b, 7, none⟩ (.int .i64 z)).setCell ⟨b, 6, none⟩ (.string A6)) fun e w' => e = .returned (.tuple #[.string ⟨(Job.text ⟨g, n, k, A2, A3, A4, A6, z⟩).1.toArray⟩, .int .i64 ((Job.text ⟨g, n, k, A2, A3, A4, A6, z⟩).2 : Nat)]) ∧ Below w.heap.size w w' ∧ Blk w.heap.size zcells w' ∧ Blk b #[.int .i64 g, .int .i64 n, .int .i64 k, .string A2, .string A3, .string A4, .string A6, .int .i64 z] w') :=
        (HT.out _ ((((b2w.setCell (p := ⟨b, 0, none⟩) hbw (.int .i64 g)).setCell (p := ⟨b, 1, none⟩) hbw (.int .i64 n)).setCell (p := ⟨b, 7, none⟩) hbw (.int .i64 z)).setCell (p := ⟨b, 6, none⟩) hbw (.string A6))).mono fun e w' ⟨h1, h2⟩ => ⟨h1, ((((b2w.setCell (p := ⟨b, 0, none⟩) hbw (.int .i64 g)).setCell (p := ⟨b, 1, none⟩) hbw (.int .i64 n)).setCell (p := ⟨b, 7, none⟩) hbw (.int .i64 z)).setCell (p := ⟨b, 6, none⟩) hbw (.string A6)).trans (h2.mono ((((b2w.setCell (p := ⟨b, 0, none⟩) hbw (.int .i64 g)).setCell (p := ⟨b, 1, none⟩) hbw (.int .i64 n)).setCell (p := ⟨b, 7, none⟩) hbw (.int .i64 z)).setCell (p := ⟨b, 6, none⟩) hbw (.string A6)).size), Blk.below ((((kR2.other (i := 0) hbR (.int .i64 g)).other (i := 1) hbR (.int .i64 n)).other (i := 7) hbR (.int .i64 z)).other (i := 6) hbR (.string A6)) h2 (by simpa using kR2.lt), Blk.below (C := #[.int .i64 g, .int .i64 n, .int .i64 k, .string A2, .string A3, .string A4, .string A6, .int .i64 z]) ((((kX2.set (i := 0) (by simp) (.int .i64 g)).set (i := 1) (by simp) (.int .i64 n)).set (i := 7) (by simp) (.int .i64 z)).set (i := 6) (by simp) (.string A6)) h2 (by simpa using kX2.lt)⟩
      by_cases hq : Job.chk ⟨g, n, k, A2, A3, A4, A6, z⟩ = 0
      · have ht : Job.text ⟨g, n, k, A2, A3, A4, A6, z⟩ = (Job.txt ⟨g, n, k, A2, A3, A4, A6, z⟩, 0) := by unfold Job.text; rw [if_pos hq]
        rw [ht] at HT2
        by_cases hx : Job.txt ⟨g, n, k, A2, A3, A4, A6, z⟩ = s.data.toList
        · have hr : Hid (Job.parse s.data.toList = (⟨g, n, k, A2, A3, A4, A6, z⟩, 0)) := hP1.out hq hx
          have hx2 : ((⟨(Job.txt ⟨g, n, k, A2, A3, A4, A6, z⟩).toArray⟩ : ByteArray).toList == s.toList) = true := by rw [tl_eq, tl_eq]; exact beq_iff_eq.2 hx
          generalize (⟨(Job.txt ⟨g, n, k, A2, A3, A4, A6, z⟩).toArray⟩ : ByteArray) = X at *
          clear hq hx ht hP1 hP2 HT HI
          go_wp2_with (first
            | (go_at_call 86; refine (HN.out _).mono ?_; rintro e w' ⟨rfl, rfl⟩)
            | (go_at_call 32; refine HT2.out.mono ?_; rintro e w3 ⟨rfl, b3, kR3, kJ3⟩; have c3 := kR3.cell; have f3 := kR3.thaw; have z3 := kR3.lt; have c4 := kJ3.cell; have f4 := kJ3.thaw; have z4 := kJ3.lt))
          have kE := kR3.set8 (.int .i64 g) (.int .i64 n) (.int .i64 k) (.string A2) (.string A3) (.string A4) (.string A6) (.int .i64 z)
          have bE := below_set8 b3 (Nat.le_refl _) (.int .i64 g) (.int .i64 n) (.int .i64 k) (.string A2) (.string A3) (.string A4) (.string A6) (.int .i64 z)
          clear c3 f3 z3 c4 f4 z4 kR3 kJ3 b3
          generalize World.setCell _ _ _ = WE at *
          have cE := kE.cell
          exact bodyPost_ret (v := jv ⟨g, n, k, A2, A3, A4, A6, z⟩) (by simp [results, Tryz.results116, go_sem, cE, jv]) rfl ⟨by rw [hr.out], bE⟩
        · have hr : Hid (Job.parse s.data.toList = (Job.zero, 3)) := hP2.out fun h => hx h.2
          have hx2 : ((⟨(Job.txt ⟨g, n, k, A2, A3, A4, A6, z⟩).toArray⟩ : ByteArray).toList == s.toList) = false := by rw [tl_eq, tl_eq]; exact beq_eq_false_iff_ne.2 hx
          generalize (⟨(Job.txt ⟨g, n, k, A2, A3, A4, A6, z⟩).toArray⟩ : ByteArray) = X at *
          clear hq hx ht hP1 hP2 HT HI
          go_wp2_with (first
            | (go_at_call 86; refine (HN.out _).mono ?_; rintro e w' ⟨rfl, rfl⟩)
            | (go_at_call 32; refine HT2.out.mono ?_; rintro e w3 ⟨rfl, b3, kR3, kJ3⟩; have c3 := kR3.cell; have f3 := kR3.thaw; have z3 := kR3.lt; have c4 := kJ3.cell; have f4 := kJ3.thaw; have z4 := kJ3.lt))
          have kE := kR3.set8 (.int .i64 0) (.int .i64 0) (.int .i64 0) (.string ⟨#[]⟩) (.string ⟨#[]⟩) (.string ⟨#[]⟩) (.string ⟨#[]⟩) (.int .i64 0)
          have bE := below_set8 b3 (Nat.le_refl _) (.int .i64 0) (.int .i64 0) (.int .i64 0) (.string ⟨#[]⟩) (.string ⟨#[]⟩) (.string ⟨#[]⟩) (.string ⟨#[]⟩) (.int .i64 0)
          clear c3 f3 z3 c4 f4 z4 kR3 kJ3 b3
          generalize World.setCell _ _ _ = WE at *
          have cE := kE.cell
          exact bodyPost_ret (v := jv Job.zero) (by simp [results, Tryz.results116, go_sem, cE, jv, Job.zero]) rfl ⟨by rw [hr.out], bE⟩
      · have ht : Job.text ⟨g, n, k, A2, A3, A4, A6, z⟩ = ([], Job.chk ⟨g, n, k, A2, A3, A4, A6, z⟩) := by unfold Job.text; rw [if_neg hq]
        rw [ht] at HT2
        have hr : Hid (Job.parse s.data.toList = (Job.zero, 3)) := hP2.out fun h => hq h.1
        obtain ⟨n1, n2, n3, n4⟩ := ne_facts hq
        generalize Job.chk ⟨g, n, k, A2, A3, A4, A6, z⟩ = q at *
        clear hq ht hP1 hP2 HT HI
        go_wp2_with (first
          | (go_at_call 86; refine (HN.out _).mono ?_; rintro e w' ⟨rfl, rfl⟩)
          | (go_at_call 32; refine HT2.out.mono ?_; rintro e w3 ⟨rfl, b3, kR3, kJ3⟩; have c3 := kR3.cell; have f3 := kR3.thaw; have z3 := kR3.lt; have c4 := kJ3.cell; have f4 := kJ3.thaw; have z4 := kJ3.lt))
        have kE := kR3.set8 (.int .i64 0) (.int .i64 0) (.int .i64 0) (.string ⟨#[]⟩) (.string ⟨#[]⟩) (.string ⟨#[]⟩) (.string ⟨#[]⟩) (.int .i64 0)
        have bE := below_set8 b3 (Nat.le_refl _) (.int .i64 0) (.int .i64 0) (.int .i64 0) (.string ⟨#[]⟩) (.string ⟨#[]⟩) (.string ⟨#[]⟩) (.string ⟨#[]⟩) (.int .i64 0)
        clear c3 f3 z3 c4 f4 z4 kR3 kJ3 b3
        generalize World.setCell _ _ _ = WE at *
        have cE := kE.cell
        exact bodyPost_ret (v := jv Job.zero) (by simp [results, Tryz.results116, go_sem, cE, jv, Job.zero]) rfl ⟨by rw [hr.out], bE⟩
end Go.Proofs.YtmilfamjkiemaaaGreatDoor

namespace Go.Proofs.YtmilfamjkiemaaaGreatDoor
open Go.RowKit

theorem jobread_any (s : ByteArray) (w : World) (hw : Ok w) (hs : s.size ≤ 1000000) :
    Calls Tryz.prog 116 #[.string s] w fun e w' => e = .returned (jv (Job.parse s.data.toList).1) ∧ Below w.heap.size w w' := by
  rcases Nat.lt_or_ge (Job.wds s).length 6 with h | h
  · rw [Job.parse_short h]; exact read_short s w hw hs h
  · exact read_long s w hw hs h

set_option maxHeartbeats 2000000 in
set_option maxRecDepth 100000 in
theorem parse_any (s : ByteArray) (w : World) (hw : Ok w) (hs : s.size ≤ 1000000) :
    Calls Tryz.prog 80 #[.string s] w fun e w' => e = .returned (.tuple #[jv (Job.parse s.data.toList).1, .int .i64 (Job.parse s.data.toList).2]) ∧ Below w.heap.size w w' := by
  have bw : Below w.heap.size w (w.alloc (.cells zcells 33)) := below_alloc1 w _
  have hB0 : Blk w.heap.size zcells (w.alloc (.cells zcells 33)) := heap_alloc_new w _
  have HR : Hid (Calls Tryz.prog 116 #[.string s] (w.alloc (.cells zcells 33)) fun e w' => e = .returned (jv (Job.parse s.data.toList).1) ∧ Below w.heap.size w w' ∧ Blk w.heap.size zcells w') :=
    (jobread_any s _ (hw.below bw) hs).mono fun e w' ⟨h1, h2⟩ => ⟨h1, bw.trans (h2.mono bw.size), hB0.below h2 (by simp)⟩
  rcases Job.parse_cases s.data.toList with ⟨j, hj, hp⟩ | ⟨_, hp⟩
  · obtain ⟨g, n, k, u, f, t, c, z⟩ := j
    have hk : (k == 0) = false := by
      have := (Job.chk_ok.1 hj.1).2.1
      simp only [Job.knd, Bool.or_eq_true, beq_iff_eq] at this
      simp; omega
    have hr : Hid (Job.parse s.data.toList = (⟨g, n, k, u, f, t, c, z⟩, 0)) := hp
    rw [hp] at HR
    unfold jv at HR
    clear hp hj hw hs hB0
    go_enter Tryz.func80, Tryz.ntmps80
    go_wp2_with (go_at_call 116; refine HR.out.mono ?_; rintro e w1 ⟨rfl, b1, k1⟩; have c1 := k1.cell; have f1 := k1.thaw; have z1 := k1.lt)
    have kE := k1.set8 (.int .i64 g) (.int .i64 n) (.int .i64 k) (.string u) (.string f) (.string t) (.string c) (.int .i64 z)
    have bE := below_set8 b1 (Nat.le_refl _) (.int .i64 g) (.int .i64 n) (.int .i64 k) (.string u) (.string f) (.string t) (.string c) (.int .i64 z)
    clear c1 f1 z1 k1 b1 bw HR
    generalize World.setCell _ _ _ = WE at *
    have cE := kE.cell
    have zE := kE.lt
    exact bodyPost_ret (v := .tuple #[jv ⟨g, n, k, u, f, t, c, z⟩, .int .i64 0]) (by simp [results, Tryz.results80, go_sem, cE, zE, jv]) rfl ⟨by rw [hr.out], by first | exact bE | exact bE.alloc bE.size _⟩
  · have hr : Hid (Job.parse s.data.toList = (Job.zero, 3)) := hp
    rw [hp] at HR
    unfold jv Job.zero at HR
    clear hp hw hs hB0
    go_enter Tryz.func80, Tryz.ntmps80
    go_wp2_with (go_at_call 116; refine HR.out.mono ?_; rintro e w1 ⟨rfl, b1, k1⟩; have c1 := k1.cell; have f1 := k1.thaw; have z1 := k1.lt)
    have kE := k1.set8 (.int .i64 0) (.int .i64 0) (.int .i64 0) (.string ⟨#[]⟩) (.string ⟨#[]⟩) (.string ⟨#[]⟩) (.string ⟨#[]⟩) (.int .i64 0)
    have bE := below_set8 b1 (Nat.le_refl _) (.int .i64 0) (.int .i64 0) (.int .i64 0) (.string ⟨#[]⟩) (.string ⟨#[]⟩) (.string ⟨#[]⟩) (.string ⟨#[]⟩) (.int .i64 0)
    clear c1 f1 z1 k1 b1 bw HR
    generalize World.setCell _ _ _ = WE at *
    have cE := kE.cell
    have zE := kE.lt
    exact bodyPost_ret (v := .tuple #[jv Job.zero, .int .i64 3]) (by simp [results, Tryz.results80, go_sem, cE, zE, jv, Job.zero]) rfl ⟨by rw [hr.out], by first | exact bE | exact bE.alloc bE.size _⟩
end Go.Proofs.YtmilfamjkiemaaaGreatDoor
