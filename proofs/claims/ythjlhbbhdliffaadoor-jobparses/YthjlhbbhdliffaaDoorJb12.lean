/-
  Walks of layer 5: the document's Parse.
-/
import Derived.Test.YthjlhbbhdliffaaDoorJb11
namespace Go.Proofs.YthjlhbbhdliffaaDoor
open Go.RowKit

namespace Job
theorem parseR_bad {s : Bs} (h : ¬ (chk (candR s) = 0 ∧ txt (candR s) = s)) : parse s = (zero, 3) := parse_not (fun _ hj => (candR_says hj).1) h
theorem parseR_err {s : Bs} (h : ¬ ((Nam.pid (pre (post s))).2.2 = 0 ∧ (Oct.number (pre (post (post (post (post (post s))))))).2 = 0)) : parse s = (zero, 3) := by
  refine parse_no ?_
  rintro ⟨j, hj⟩
  exact h (candR_says hj).2
end Job

set_option maxHeartbeats 8000000 in
set_option maxRecDepth 100000 in
theorem rparse_any (s : ByteArray) (w : World) (hw : Ok w) (hs : s.size ≤ 1000000) :
    Calls Tryd.prog 15 #[.string s] w fun e w' => e = .returned (.tuple #[jv (Job.parse s.data.toList).1, .int .i64 (Job.parse s.data.toList).2]) ∧ Below w.heap.size w w' := by
  have bw : Below w.heap.size w (w.alloc (.cells zcells 25)) := below_alloc1 w _
  have hB0 : Blk w.heap.size zcells (w.alloc (.cells zcells 25)) := heap_alloc_new w _
  have HC : ∀ (l : List UInt8), l.length ≤ s.size → ∀ W, Below (w.alloc (.cells zcells 25)).heap.size (w.alloc (.cells zcells 25)) W → Calls Tryd.prog 31 #[.string ⟨l.toArray⟩] W fun e w' => e = .returned (.tuple #[.string ⟨(Job.pre l).toArray⟩, .string ⟨(Job.post l).toArray⟩]) ∧ Below (w.alloc (.cells zcells 25)).heap.size (w.alloc (.cells zcells 25)) w' := fun l hl W hW =>
    (rcut_any ⟨l.toArray⟩ W (by show (List.toArray _).size ≤ _; rw [List.size_toArray]; omega)).mono fun e w' ⟨h1, h2⟩ => ⟨h1, hW.trans (h2.mono hW.size)⟩
  have hP1 : Job.chk (Job.candR s.data.toList) = 0 → Job.txt (Job.candR s.data.toList) = s.data.toList → Job.parse s.data.toList = (Job.candR s.data.toList, 0) := fun a b => Job.parse_yes ⟨a, b⟩
  have hP2 := Job.parseR_bad (s := s.data.toList)
  have hP3 := Job.parseR_err (s := s.data.toList)
  have hl : s.data.toList.length = s.size := Oct.len_eq s
  generalize hL : s.data.toList = l at *
  have q1 := Job.post_len l
  have q2 := Job.post_len (Job.post l)
  have q3 := Job.post_len (Job.post (Job.post l))
  have q4 := Job.post_len (Job.post (Job.post (Job.post l)))
  have q5 := Job.post_len (Job.post (Job.post (Job.post (Job.post l))))
  have q6 := Job.post_len (Job.post (Job.post (Job.post (Job.post (Job.post l)))))
  have p1 := Job.pre_len (Job.post l)
  have p2 := Job.pre_len (Job.post (Job.post l))
  have p3 := Job.pre_len (Job.post (Job.post (Job.post l)))
  have p4 := Job.pre_len (Job.post (Job.post (Job.post (Job.post l))))
  have p5 := Job.pre_len (Job.post (Job.post (Job.post (Job.post (Job.post l)))))
  have C0 := HC l (by omega)
  have C1 := HC (Job.post l) (by omega)
  have C2 := HC (Job.post (Job.post l)) (by omega)
  have C3 := HC (Job.post (Job.post (Job.post l))) (by omega)
  have C4 := HC (Job.post (Job.post (Job.post (Job.post l)))) (by omega)
  have C5 := HC (Job.post (Job.post (Job.post (Job.post (Job.post l))))) (by omega)
  rw [show (⟨l.toArray⟩ : ByteArray) = s by rw [← hL]] at C0
  have HI : Hid (∀ W, Calls Tryd.prog 32 #[.string ⟨(Job.pre (Job.post l)).toArray⟩] W fun e w' => e = .returned (.tuple #[.agg #[.int .i64 (Nam.pid (Job.pre (Job.post l))).1, .int .i64 (Nam.pid (Job.pre (Job.post l))).2.1], .int .i64 (Nam.pid (Job.pre (Job.post l))).2.2]) ∧ Below W.heap.size W w') := fun W => refParseId_any ⟨(Job.pre (Job.post l)).toArray⟩ W (by show (List.toArray _).size ≤ _; rw [List.size_toArray]; unfold maxLen; omega)
  have HN : Hid (∀ W, Calls Tryd.prog 33 #[.string ⟨(Job.pre (Job.post (Job.post (Job.post (Job.post (Job.post l)))))).toArray⟩] W fun e w' => e = .returned (.tuple #[.int .i64 ((Oct.number (Job.pre (Job.post (Job.post (Job.post (Job.post (Job.post l))))))).1 : Int), .int .i64 ((Oct.number (Job.pre (Job.post (Job.post (Job.post (Job.post (Job.post l))))))).2 : Int)]) ∧ w' = W) := fun W => refNumber_any ⟨(Job.pre (Job.post (Job.post (Job.post (Job.post (Job.post l)))))).toArray⟩ W (by show (List.toArray _).size ≤ _; rw [List.size_toArray]; unfold maxLen; omega)
  have sz2 : (⟨(Job.pre (Job.post (Job.post l))).toArray⟩ : ByteArray).size ≤ maxLen := by show (List.toArray _).size ≤ _; rw [List.size_toArray]; unfold maxLen; omega
  have sz3 : (⟨(Job.pre (Job.post (Job.post (Job.post l)))).toArray⟩ : ByteArray).size ≤ maxLen := by show (List.toArray _).size ≤ _; rw [List.size_toArray]; unfold maxLen; omega
  have sz4 : (⟨(Job.pre (Job.post (Job.post (Job.post (Job.post l))))).toArray⟩ : ByteArray).size ≤ maxLen := by show (List.toArray _).size ≤ _; rw [List.size_toArray]; unfold maxLen; omega
  have sz6 : (⟨(Job.post (Job.post (Job.post (Job.post (Job.post (Job.post l)))))).toArray⟩ : ByteArray).size ≤ maxLen := by show (List.toArray _).size ≤ _; rw [List.size_toArray]; unfold maxLen; omega
  have hkf : Job.kofR (Job.pre l) = if ((⟨(Job.pre l).toArray⟩ : ByteArray).toList == [69]) = true then 2 else if ((⟨(Job.pre l).toArray⟩ : ByteArray).toList == [82]) = true then 3 else 1 := by
    rw [tl_eq]; unfold Job.kofR; simp only [beq_iff_eq]
  unfold Job.candR at hP1 hP2
  generalize (⟨(Job.pre l).toArray⟩ : ByteArray) = D0 at *
  generalize (⟨(Job.pre (Job.post l)).toArray⟩ : ByteArray) = D1 at *
  generalize (⟨(Job.pre (Job.post (Job.post l))).toArray⟩ : ByteArray) = D2 at *
  generalize (⟨(Job.pre (Job.post (Job.post (Job.post l)))).toArray⟩ : ByteArray) = D3 at *
  generalize (⟨(Job.pre (Job.post (Job.post (Job.post (Job.post l))))).toArray⟩ : ByteArray) = D4 at *
  generalize (⟨(Job.pre (Job.post (Job.post (Job.post (Job.post (Job.post l)))))).toArray⟩ : ByteArray) = D5 at *
  generalize (⟨(Job.post (Job.post (Job.post (Job.post (Job.post (Job.post l)))))).toArray⟩ : ByteArray) = R6 at *
  generalize (⟨(Job.post (Job.post (Job.post (Job.post (Job.post l))))).toArray⟩ : ByteArray) = R5 at *
  generalize (⟨(Job.post (Job.post (Job.post (Job.post l)))).toArray⟩ : ByteArray) = R4 at *
  generalize (⟨(Job.post (Job.post (Job.post l))).toArray⟩ : ByteArray) = R3 at *
  generalize (⟨(Job.post (Job.post l)).toArray⟩ : ByteArray) = R2 at *
  generalize (⟨(Job.post l).toArray⟩ : ByteArray) = R1 at *
  generalize (Nam.pid (Job.pre (Job.post l))).1 = g at *
  generalize (Nam.pid (Job.pre (Job.post l))).2.1 = n at *
  generalize (Nam.pid (Job.pre (Job.post l))).2.2 = e1 at *
  generalize ((Oct.number (Job.pre (Job.post (Job.post (Job.post (Job.post (Job.post l))))))).1 : Int) = z at *
  generalize (Oct.number (Job.pre (Job.post (Job.post (Job.post (Job.post (Job.post l))))))).2 = e2 at *
  generalize Job.kofR (Job.pre l) = k at *
  have HT : Hid (∀ W, Below w.heap.size w W → Calls Tryd.prog 11 #[.agg #[.int .i64 g, .int .i64 n, .int .i64 k, .string D2, .string D3, .string D4, .string R6, .int .i64 z]] W fun e w' => e = .returned (.tuple #[.string ⟨(Job.text ⟨g, n, k, D2, D3, D4, R6, z⟩).1.toArray⟩, .int .i64 ((Job.text ⟨g, n, k, D2, D3, D4, R6, z⟩).2 : Nat)]) ∧ Below W.heap.size W w') := fun W hW => rjtext_any g n k D2 D3 D4 R6 z W (hw.below hW) sz2 sz3 sz4 sz6
  have hE : (e1 = 0 ∧ e2 = 0 ∧ Job.chk ⟨g, n, k, D2, D3, D4, R6, z⟩ = 0 ∧ Job.txt ⟨g, n, k, D2, D3, D4, R6, z⟩ = l ∧ Job.parse l = (⟨g, n, k, D2, D3, D4, R6, z⟩, 0)) ∨ (¬ (e1 = 0 ∧ e2 = 0 ∧ Job.chk ⟨g, n, k, D2, D3, D4, R6, z⟩ = 0 ∧ Job.txt ⟨g, n, k, D2, D3, D4, R6, z⟩ = l) ∧ Job.parse l = (Job.zero, 3)) := by
    by_cases h : e1 = 0 ∧ e2 = 0
    · by_cases h' : Job.chk ⟨g, n, k, D2, D3, D4, R6, z⟩ = 0 ∧ Job.txt ⟨g, n, k, D2, D3, D4, R6, z⟩ = l
      · exact .inl ⟨h.1, h.2, h'.1, h'.2, hP1 h'.1 h'.2⟩
      · exact .inr ⟨fun c => h' ⟨c.2.2.1, c.2.2.2⟩, hP2 h'⟩
    · exact .inr ⟨fun c => h ⟨c.1, c.2.1⟩, hP3 h⟩
  replace C0 : Hid _ := C0
  replace C1 : Hid _ := C1
  replace C2 : Hid _ := C2
  replace C3 : Hid _ := C3
  replace C4 : Hid _ := C4
  replace C5 : Hid _ := C5
  clear hP1 hP2 hP3 HC hw hs q1 q2 q3 q4 q5 q6 p1 p2 p3 p4 p5 sz2 sz3 sz4 sz6 hl
  have hcase : ((D0.toList == [69]) = true ∧ k = 2) ∨ ((D0.toList == [69]) = false ∧ (D0.toList == [82]) = true ∧ k = 3) ∨ ((D0.toList == [69]) = false ∧ (D0.toList == [82]) = false ∧ k = 1) := by
    cases h1 : (D0.toList == [69])
    · cases h2 : (D0.toList == [82])
      · right; right; rw [h1, h2] at hkf; exact ⟨rfl, rfl, by simpa using hkf⟩
      · right; left; rw [h1, h2] at hkf; exact ⟨rfl, rfl, by simpa using hkf⟩
    · left; rw [h1] at hkf; exact ⟨rfl, by simpa using hkf⟩
  clear hkf
  go_enter Tryd.func15, Tryd.ntmps15
  go_upto_region 9 with (go_at_call 31; (first | with_reducible refine (C0.out _ (Below.refl _ _)).mono ?_ | with_reducible refine (C1.out _ (by assumption)).mono ?_ | with_reducible refine (C2.out _ (by assumption)).mono ?_ | with_reducible refine (C3.out _ (by assumption)).mono ?_ | with_reducible refine (C4.out _ (by assumption)).mono ?_ | with_reducible refine (C5.out _ (by assumption)).mono ?_); rintro e w1 ⟨rfl, b1⟩)
  have hbw1 : w.heap.size + 1 ≤ w1.heap.size := by have := b1.size; simpa using this
  have hbw : w.heap.size ≤ w1.heap.size := by omega
  have hbR : w1.heap.size ≠ w.heap.size := by omega
  have hn1 : ¬ (w1.heap.size = w.heap.size) := by omega
  have hn2 : ¬ (w.heap.size = w1.heap.size) := by omega
  rcases hcase with ⟨h1, rfl⟩ | ⟨h1, h2, rfl⟩ | ⟨h1, h2, rfl⟩
  · skip
    have kJ : Blk w1.heap.size #[.int .i64 0, .int .i64 0, .int .i64 2, .string D2, .string D3, .string D4, .string R6, .int .i64 0] (w1.alloc (.cells #[.int .i64 0, .int .i64 0, .int .i64 2, .string D2, .string D3, .string D4, .string R6, .int .i64 0] 25)) := heap_alloc_new w1 _
    have kR : Blk w.heap.size zcells (w1.alloc (.cells #[.int .i64 0, .int .i64 0, .int .i64 2, .string D2, .string D3, .string D4, .string R6, .int .i64 0] 25)) := (hB0.below b1 (by simp)).below (below_alloc1 _ _) (by omega)
    have bJ : Below w.heap.size w (w1.alloc (.cells #[.int .i64 0, .int .i64 0, .int .i64 2, .string D2, .string D3, .string D4, .string R6, .int .i64 0] 25)) := (bw.trans (b1.mono bw.size)).alloc (by omega) _
    go_upto_region 15 with (go_at_call 32; refine (HI.out _).mono ?_; rintro e w2 ⟨rfl, b2⟩; have kJ2 := kJ.below b2 kJ.lt; have kR2 := kR.below b2 kR.lt; have b2w := bJ.trans (b2.mono bJ.size); have c2 := kJ2.cell; have f2 := kJ2.thaw; have z2 := kJ2.lt)
    have HT2 : Hid (Calls Tryd.prog 11 #[.agg #[.int .i64 g, .int .i64 n, .int .i64 2, .string D2, .string D3, .string D4, .string R6, .int .i64 z]] ((((w2.setCell ⟨w1.heap.size, 0, none⟩ (.int .i64 g)).setCell ⟨w1.heap.size, 1, none⟩ (.int .i64 n)).setCell ⟨w1.heap.size, 7, none⟩ (.int .i64 z)).alloc (.cells #[.int .i64 g, .int .i64 n] 23)) fun e w' => e = .returned (.tuple #[.string ⟨(Job.text ⟨g, n, 2, D2, D3, D4, R6, z⟩).1.toArray⟩, .int .i64 ((Job.text ⟨g, n, 2, D2, D3, D4, R6, z⟩).2 : Nat)]) ∧ Below w.heap.size w w' ∧ Blk w.heap.size zcells w' ∧ Blk w1.heap.size #[.int .i64 g, .int .i64 n, .int .i64 2, .string D2, .string D3, .string D4, .string R6, .int .i64 z] w') := by
      have bN : Below w.heap.size w ((((w2.setCell ⟨w1.heap.size, 0, none⟩ (.int .i64 g)).setCell ⟨w1.heap.size, 1, none⟩ (.int .i64 n)).setCell ⟨w1.heap.size, 7, none⟩ (.int .i64 z)).alloc (.cells #[.int .i64 g, .int .i64 n] 23)) := (((b2w.setCell (p := ⟨w1.heap.size, 0, none⟩) hbw (.int .i64 g)).setCell (p := ⟨w1.heap.size, 1, none⟩) hbw (.int .i64 n)).setCell (p := ⟨w1.heap.size, 7, none⟩) hbw (.int .i64 z)).alloc (by simpa using b2w.size) _
      have kN : Blk w1.heap.size #[.int .i64 g, .int .i64 n, .int .i64 2, .string D2, .string D3, .string D4, .string R6, .int .i64 z] ((((w2.setCell ⟨w1.heap.size, 0, none⟩ (.int .i64 g)).setCell ⟨w1.heap.size, 1, none⟩ (.int .i64 n)).setCell ⟨w1.heap.size, 7, none⟩ (.int .i64 z)).alloc (.cells #[.int .i64 g, .int .i64 n] 23)) := Blk.below (C := #[.int .i64 g, .int .i64 n, .int .i64 2, .string D2, .string D3, .string D4, .string R6, .int .i64 z]) (((kJ2.set (i := 0) (by simp) (.int .i64 g)).set (i := 1) (by simp) (.int .i64 n)).set (i := 7) (by simp) (.int .i64 z)) (below_alloc1 _ _) (by simpa using z2)
      have rN : Blk w.heap.size zcells ((((w2.setCell ⟨w1.heap.size, 0, none⟩ (.int .i64 g)).setCell ⟨w1.heap.size, 1, none⟩ (.int .i64 n)).setCell ⟨w1.heap.size, 7, none⟩ (.int .i64 z)).alloc (.cells #[.int .i64 g, .int .i64 n] 23)) := Blk.below (((kR2.other (i := 0) hbR (.int .i64 g)).other (i := 1) hbR (.int .i64 n)).other (i := 7) hbR (.int .i64 z)) (below_alloc1 _ _) (by simpa using kR2.lt)
      exact (HT.out _ bN).mono fun e w' ⟨h1, h2⟩ => ⟨h1, bN.trans (h2.mono bN.size), rN.below h2 rN.lt, kN.below h2 kN.lt⟩
    rcases hE with ⟨rfl, rfl, hq, hx, hp⟩ | ⟨hno, hp⟩
    · have hr : Hid (Job.parse l = (⟨g, n, 2, D2, D3, D4, R6, z⟩, 0)) := hp
      have ht : Job.text ⟨g, n, 2, D2, D3, D4, R6, z⟩ = (Job.txt ⟨g, n, 2, D2, D3, D4, R6, z⟩, 0) := by unfold Job.text; rw [if_pos hq]
      rw [ht] at HT2
      have hx2 : ((⟨(Job.txt ⟨g, n, 2, D2, D3, D4, R6, z⟩).toArray⟩ : ByteArray).toList == s.toList) = true := by rw [tl_eq, tl_eq, hL]; exact beq_iff_eq.2 hx
      generalize (⟨(Job.txt ⟨g, n, 2, D2, D3, D4, R6, z⟩).toArray⟩ : ByteArray) = X at *
      clear hq hx ht hp HT HI C0 C1 C2 C3 C4 C5
      go_wp2_with (first
        | (go_at_call 33; refine (HN.out _).mono ?_; rintro e w' ⟨rfl, rfl⟩)
        | (go_at_call 11; refine HT2.out.mono ?_; rintro e w3 ⟨rfl, b3, kR3, kJ3⟩; have c3 := kR3.cell; have f3 := kR3.thaw; have z3 := kR3.lt; have c4 := kJ3.cell; have f4 := kJ3.thaw; have z4 := kJ3.lt))
      have kE := kR3.set8 (.int .i64 g) (.int .i64 n) (.int .i64 2) (.string D2) (.string D3) (.string D4) (.string R6) (.int .i64 z)
      have bE := below_set8 b3 (Nat.le_refl _) (.int .i64 g) (.int .i64 n) (.int .i64 2) (.string D2) (.string D3) (.string D4) (.string R6) (.int .i64 z)
      clear c3 f3 z3 c4 f4 z4 kR3 kJ3 b3
      generalize World.setCell _ _ _ = WE at *
      have cE := kE.cell
      exact bodyPost_ret (v := .tuple #[jv ⟨g, n, 2, D2, D3, D4, R6, z⟩, .int .i64 0]) (by simp [results, Tryd.results15, go_sem, cE, jv]) rfl ⟨by rw [hr.out], bE⟩
    · have hr : Hid (Job.parse l = (Job.zero, 3)) := hp
      by_cases he1 : e1 = 0
      · subst he1
        by_cases he2 : e2 = 0
        · subst he2
          by_cases hq : Job.chk ⟨g, n, 2, D2, D3, D4, R6, z⟩ = 0
          · have hx : Job.txt ⟨g, n, 2, D2, D3, D4, R6, z⟩ ≠ l := fun c => hno ⟨rfl, rfl, hq, c⟩
            have ht : Job.text ⟨g, n, 2, D2, D3, D4, R6, z⟩ = (Job.txt ⟨g, n, 2, D2, D3, D4, R6, z⟩, 0) := by unfold Job.text; rw [if_pos hq]
            rw [ht] at HT2
            have hx2 : ((⟨(Job.txt ⟨g, n, 2, D2, D3, D4, R6, z⟩).toArray⟩ : ByteArray).toList == s.toList) = false := by rw [tl_eq, tl_eq, hL]; exact beq_eq_false_iff_ne.2 hx
            generalize (⟨(Job.txt ⟨g, n, 2, D2, D3, D4, R6, z⟩).toArray⟩ : ByteArray) = X at *
            clear hq hx ht hp HT HI C0 C1 C2 C3 C4 C5 hno
            go_wp2_with (first
              | (go_at_call 33; refine (HN.out _).mono ?_; rintro e w' ⟨rfl, rfl⟩)
              | (go_at_call 11; refine HT2.out.mono ?_; rintro e w3 ⟨rfl, b3, kR3, kJ3⟩; have c3 := kR3.cell; have f3 := kR3.thaw; have z3 := kR3.lt; have c4 := kJ3.cell; have f4 := kJ3.thaw; have z4 := kJ3.lt))
            have kE := kR3.set8 (.int .i64 0) (.int .i64 0) (.int .i64 0) (.string ⟨#[]⟩) (.string ⟨#[]⟩) (.string ⟨#[]⟩) (.string ⟨#[]⟩) (.int .i64 0)
            have bE := below_set8 b3 (Nat.le_refl _) (.int .i64 0) (.int .i64 0) (.int .i64 0) (.string ⟨#[]⟩) (.string ⟨#[]⟩) (.string ⟨#[]⟩) (.string ⟨#[]⟩) (.int .i64 0)
            clear c3 f3 z3 c4 f4 z4 kR3 kJ3 b3
            generalize World.setCell _ _ _ = WE at *
            have cE := kE.cell
            exact bodyPost_ret (v := .tuple #[jv Job.zero, .int .i64 3]) (by simp [results, Tryd.results15, go_sem, cE, jv, Job.zero]) rfl ⟨by rw [hr.out], bE⟩
          · have ht : Job.text ⟨g, n, 2, D2, D3, D4, R6, z⟩ = ([], Job.chk ⟨g, n, 2, D2, D3, D4, R6, z⟩) := by unfold Job.text; rw [if_neg hq]
            rw [ht] at HT2
            obtain ⟨n1, n2, n3, n4⟩ := ne_facts hq
            generalize Job.chk ⟨g, n, 2, D2, D3, D4, R6, z⟩ = q at *
            clear hq ht hp HT HI C0 C1 C2 C3 C4 C5 hno
            go_wp2_with (first
              | (go_at_call 33; refine (HN.out _).mono ?_; rintro e w' ⟨rfl, rfl⟩)
              | (go_at_call 11; refine HT2.out.mono ?_; rintro e w3 ⟨rfl, b3, kR3, kJ3⟩; have c3 := kR3.cell; have f3 := kR3.thaw; have z3 := kR3.lt; have c4 := kJ3.cell; have f4 := kJ3.thaw; have z4 := kJ3.lt))
            have kE := kR3.set8 (.int .i64 0) (.int .i64 0) (.int .i64 0) (.string ⟨#[]⟩) (.string ⟨#[]⟩) (.string ⟨#[]⟩) (.string ⟨#[]⟩) (.int .i64 0)
            have bE := below_set8 b3 (Nat.le_refl _) (.int .i64 0) (.int .i64 0) (.int .i64 0) (.string ⟨#[]⟩) (.string ⟨#[]⟩) (.string ⟨#[]⟩) (.string ⟨#[]⟩) (.int .i64 0)
            clear c3 f3 z3 c4 f4 z4 kR3 kJ3 b3
            generalize World.setCell _ _ _ = WE at *
            have cE := kE.cell
            exact bodyPost_ret (v := .tuple #[jv Job.zero, .int .i64 3]) (by simp [results, Tryd.results15, go_sem, cE, jv, Job.zero]) rfl ⟨by rw [hr.out], bE⟩
        · obtain ⟨n1, n2, n3, n4⟩ := ne_facts he2
          generalize (⟨(Job.text ⟨g, n, 2, D2, D3, D4, R6, z⟩).1.toArray⟩ : ByteArray) = X at *
          generalize ((Job.text ⟨g, n, 2, D2, D3, D4, R6, z⟩).2 : Int) = q at *
          clear he2 hp HT HI C0 C1 C2 C3 C4 C5 hno
          go_wp2_with (first
            | (go_at_call 33; refine (HN.out _).mono ?_; rintro e w' ⟨rfl, rfl⟩)
            | (go_at_call 11; refine HT2.out.mono ?_; rintro e w3 ⟨rfl, b3, kR3, kJ3⟩; have c3 := kR3.cell; have f3 := kR3.thaw; have z3 := kR3.lt; have c4 := kJ3.cell; have f4 := kJ3.thaw; have z4 := kJ3.lt))
          have kE := kR3.set8 (.int .i64 0) (.int .i64 0) (.int .i64 0) (.string ⟨#[]⟩) (.string ⟨#[]⟩) (.string ⟨#[]⟩) (.string ⟨#[]⟩) (.int .i64 0)
          have bE := below_set8 b3 (Nat.le_refl _) (.int .i64 0) (.int .i64 0) (.int .i64 0) (.string ⟨#[]⟩) (.string ⟨#[]⟩) (.string ⟨#[]⟩) (.string ⟨#[]⟩) (.int .i64 0)
          clear c3 f3 z3 c4 f4 z4 kR3 kJ3 b3
          generalize World.setCell _ _ _ = WE at *
          have cE := kE.cell
          exact bodyPost_ret (v := .tuple #[jv Job.zero, .int .i64 3]) (by simp [results, Tryd.results15, go_sem, cE, jv, Job.zero]) rfl ⟨by rw [hr.out], bE⟩
      · have n1 : (e1 != 0) = true := by simpa using he1
        have n2 : (e1 == 0) = false := by simpa using he1
        generalize (⟨(Job.text ⟨g, n, 2, D2, D3, D4, R6, z⟩).1.toArray⟩ : ByteArray) = X at *
        generalize ((Job.text ⟨g, n, 2, D2, D3, D4, R6, z⟩).2 : Int) = q at *
        clear he1 hp HT HI C0 C1 C2 C3 C4 C5 hno
        go_wp2_with (first
          | (go_at_call 33; refine (HN.out _).mono ?_; rintro e w' ⟨rfl, rfl⟩)
          | (go_at_call 11; refine HT2.out.mono ?_; rintro e w3 ⟨rfl, b3, kR3, kJ3⟩; have c3 := kR3.cell; have f3 := kR3.thaw; have z3 := kR3.lt; have c4 := kJ3.cell; have f4 := kJ3.thaw; have z4 := kJ3.lt))
        have kE := kR3.set8 (.int .i64 0) (.int .i64 0) (.int .i64 0) (.string ⟨#[]⟩) (.string ⟨#[]⟩) (.string ⟨#[]⟩) (.string ⟨#[]⟩) (.int .i64 0)
        have bE := below_set8 b3 (Nat.le_refl _) (.int .i64 0) (.int .i64 0) (.int .i64 0) (.string ⟨#[]⟩) (.string ⟨#[]⟩) (.string ⟨#[]⟩) (.string ⟨#[]⟩) (.int .i64 0)
        clear c3 f3 z3 c4 f4 z4 kR3 kJ3 b3
        generalize World.setCell _ _ _ = WE at *
        have cE := kE.cell
        exact bodyPost_ret (v := .tuple #[jv Job.zero, .int .i64 3]) (by simp [results, Tryd.results15, go_sem, cE, jv, Job.zero]) rfl ⟨by rw [hr.out], bE⟩
  · skip
    have kJ : Blk w1.heap.size #[.int .i64 0, .int .i64 0, .int .i64 3, .string D2, .string D3, .string D4, .string R6, .int .i64 0] (w1.alloc (.cells #[.int .i64 0, .int .i64 0, .int .i64 3, .string D2, .string D3, .string D4, .string R6, .int .i64 0] 25)) := heap_alloc_new w1 _
    have kR : Blk w.heap.size zcells (w1.alloc (.cells #[.int .i64 0, .int .i64 0, .int .i64 3, .string D2, .string D3, .string D4, .string R6, .int .i64 0] 25)) := (hB0.below b1 (by simp)).below (below_alloc1 _ _) (by omega)
    have bJ : Below w.heap.size w (w1.alloc (.cells #[.int .i64 0, .int .i64 0, .int .i64 3, .string D2, .string D3, .string D4, .string R6, .int .i64 0] 25)) := (bw.trans (b1.mono bw.size)).alloc (by omega) _
    go_upto_region 15 with (go_at_call 32; refine (HI.out _).mono ?_; rintro e w2 ⟨rfl, b2⟩; have kJ2 := kJ.below b2 kJ.lt; have kR2 := kR.below b2 kR.lt; have b2w := bJ.trans (b2.mono bJ.size); have c2 := kJ2.cell; have f2 := kJ2.thaw; have z2 := kJ2.lt)
    have HT2 : Hid (Calls Tryd.prog 11 #[.agg #[.int .i64 g, .int .i64 n, .int .i64 3, .string D2, .string D3, .string D4, .string R6, .int .i64 z]] ((((w2.setCell ⟨w1.heap.size, 0, none⟩ (.int .i64 g)).setCell ⟨w1.heap.size, 1, none⟩ (.int .i64 n)).setCell ⟨w1.heap.size, 7, none⟩ (.int .i64 z)).alloc (.cells #[.int .i64 g, .int .i64 n] 23)) fun e w' => e = .returned (.tuple #[.string ⟨(Job.text ⟨g, n, 3, D2, D3, D4, R6, z⟩).1.toArray⟩, .int .i64 ((Job.text ⟨g, n, 3, D2, D3, D4, R6, z⟩).2 : Nat)]) ∧ Below w.heap.size w w' ∧ Blk w.heap.size zcells w' ∧ Blk w1.heap.size #[.int .i64 g, .int .i64 n, .int .i64 3, .string D2, .string D3, .string D4, .string R6, .int .i64 z] w') := by
      have bN : Below w.heap.size w ((((w2.setCell ⟨w1.heap.size, 0, none⟩ (.int .i64 g)).setCell ⟨w1.heap.size, 1, none⟩ (.int .i64 n)).setCell ⟨w1.heap.size, 7, none⟩ (.int .i64 z)).alloc (.cells #[.int .i64 g, .int .i64 n] 23)) := (((b2w.setCell (p := ⟨w1.heap.size, 0, none⟩) hbw (.int .i64 g)).setCell (p := ⟨w1.heap.size, 1, none⟩) hbw (.int .i64 n)).setCell (p := ⟨w1.heap.size, 7, none⟩) hbw (.int .i64 z)).alloc (by simpa using b2w.size) _
      have kN : Blk w1.heap.size #[.int .i64 g, .int .i64 n, .int .i64 3, .string D2, .string D3, .string D4, .string R6, .int .i64 z] ((((w2.setCell ⟨w1.heap.size, 0, none⟩ (.int .i64 g)).setCell ⟨w1.heap.size, 1, none⟩ (.int .i64 n)).setCell ⟨w1.heap.size, 7, none⟩ (.int .i64 z)).alloc (.cells #[.int .i64 g, .int .i64 n] 23)) := Blk.below (C := #[.int .i64 g, .int .i64 n, .int .i64 3, .string D2, .string D3, .string D4, .string R6, .int .i64 z]) (((kJ2.set (i := 0) (by simp) (.int .i64 g)).set (i := 1) (by simp) (.int .i64 n)).set (i := 7) (by simp) (.int .i64 z)) (below_alloc1 _ _) (by simpa using z2)
      have rN : Blk w.heap.size zcells ((((w2.setCell ⟨w1.heap.size, 0, none⟩ (.int .i64 g)).setCell ⟨w1.heap.size, 1, none⟩ (.int .i64 n)).setCell ⟨w1.heap.size, 7, none⟩ (.int .i64 z)).alloc (.cells #[.int .i64 g, .int .i64 n] 23)) := Blk.below (((kR2.other (i := 0) hbR (.int .i64 g)).other (i := 1) hbR (.int .i64 n)).other (i := 7) hbR (.int .i64 z)) (below_alloc1 _ _) (by simpa using kR2.lt)
      exact (HT.out _ bN).mono fun e w' ⟨h1, h2⟩ => ⟨h1, bN.trans (h2.mono bN.size), rN.below h2 rN.lt, kN.below h2 kN.lt⟩
    rcases hE with ⟨rfl, rfl, hq, hx, hp⟩ | ⟨hno, hp⟩
    · have hr : Hid (Job.parse l = (⟨g, n, 3, D2, D3, D4, R6, z⟩, 0)) := hp
      have ht : Job.text ⟨g, n, 3, D2, D3, D4, R6, z⟩ = (Job.txt ⟨g, n, 3, D2, D3, D4, R6, z⟩, 0) := by unfold Job.text; rw [if_pos hq]
      rw [ht] at HT2
      have hx2 : ((⟨(Job.txt ⟨g, n, 3, D2, D3, D4, R6, z⟩).toArray⟩ : ByteArray).toList == s.toList) = true := by rw [tl_eq, tl_eq, hL]; exact beq_iff_eq.2 hx
      generalize (⟨(Job.txt ⟨g, n, 3, D2, D3, D4, R6, z⟩).toArray⟩ : ByteArray) = X at *
      clear hq hx ht hp HT HI C0 C1 C2 C3 C4 C5
      go_wp2_with (first
        | (go_at_call 33; refine (HN.out _).mono ?_; rintro e w' ⟨rfl, rfl⟩)
        | (go_at_call 11; refine HT2.out.mono ?_; rintro e w3 ⟨rfl, b3, kR3, kJ3⟩; have c3 := kR3.cell; have f3 := kR3.thaw; have z3 := kR3.lt; have c4 := kJ3.cell; have f4 := kJ3.thaw; have z4 := kJ3.lt))
      have kE := kR3.set8 (.int .i64 g) (.int .i64 n) (.int .i64 3) (.string D2) (.string D3) (.string D4) (.string R6) (.int .i64 z)
      have bE := below_set8 b3 (Nat.le_refl _) (.int .i64 g) (.int .i64 n) (.int .i64 3) (.string D2) (.string D3) (.string D4) (.string R6) (.int .i64 z)
      clear c3 f3 z3 c4 f4 z4 kR3 kJ3 b3
      generalize World.setCell _ _ _ = WE at *
      have cE := kE.cell
      exact bodyPost_ret (v := .tuple #[jv ⟨g, n, 3, D2, D3, D4, R6, z⟩, .int .i64 0]) (by simp [results, Tryd.results15, go_sem, cE, jv]) rfl ⟨by rw [hr.out], bE⟩
    · have hr : Hid (Job.parse l = (Job.zero, 3)) := hp
      by_cases he1 : e1 = 0
      · subst he1
        by_cases he2 : e2 = 0
        · subst he2
          by_cases hq : Job.chk ⟨g, n, 3, D2, D3, D4, R6, z⟩ = 0
          · have hx : Job.txt ⟨g, n, 3, D2, D3, D4, R6, z⟩ ≠ l := fun c => hno ⟨rfl, rfl, hq, c⟩
            have ht : Job.text ⟨g, n, 3, D2, D3, D4, R6, z⟩ = (Job.txt ⟨g, n, 3, D2, D3, D4, R6, z⟩, 0) := by unfold Job.text; rw [if_pos hq]
            rw [ht] at HT2
            have hx2 : ((⟨(Job.txt ⟨g, n, 3, D2, D3, D4, R6, z⟩).toArray⟩ : ByteArray).toList == s.toList) = false := by rw [tl_eq, tl_eq, hL]; exact beq_eq_false_iff_ne.2 hx
            generalize (⟨(Job.txt ⟨g, n, 3, D2, D3, D4, R6, z⟩).toArray⟩ : ByteArray) = X at *
            clear hq hx ht hp HT HI C0 C1 C2 C3 C4 C5 hno
            go_wp2_with (first
              | (go_at_call 33; refine (HN.out _).mono ?_; rintro e w' ⟨rfl, rfl⟩)
              | (go_at_call 11; refine HT2.out.mono ?_; rintro e w3 ⟨rfl, b3, kR3, kJ3⟩; have c3 := kR3.cell; have f3 := kR3.thaw; have z3 := kR3.lt; have c4 := kJ3.cell; have f4 := kJ3.thaw; have z4 := kJ3.lt))
            have kE := kR3.set8 (.int .i64 0) (.int .i64 0) (.int .i64 0) (.string ⟨#[]⟩) (.string ⟨#[]⟩) (.string ⟨#[]⟩) (.string ⟨#[]⟩) (.int .i64 0)
            have bE := below_set8 b3 (Nat.le_refl _) (.int .i64 0) (.int .i64 0) (.int .i64 0) (.string ⟨#[]⟩) (.string ⟨#[]⟩) (.string ⟨#[]⟩) (.string ⟨#[]⟩) (.int .i64 0)
            clear c3 f3 z3 c4 f4 z4 kR3 kJ3 b3
            generalize World.setCell _ _ _ = WE at *
            have cE := kE.cell
            exact bodyPost_ret (v := .tuple #[jv Job.zero, .int .i64 3]) (by simp [results, Tryd.results15, go_sem, cE, jv, Job.zero]) rfl ⟨by rw [hr.out], bE⟩
          · have ht : Job.text ⟨g, n, 3, D2, D3, D4, R6, z⟩ = ([], Job.chk ⟨g, n, 3, D2, D3, D4, R6, z⟩) := by unfold Job.text; rw [if_neg hq]
            rw [ht] at HT2
            obtain ⟨n1, n2, n3, n4⟩ := ne_facts hq
            generalize Job.chk ⟨g, n, 3, D2, D3, D4, R6, z⟩ = q at *
            clear hq ht hp HT HI C0 C1 C2 C3 C4 C5 hno
            go_wp2_with (first
              | (go_at_call 33; refine (HN.out _).mono ?_; rintro e w' ⟨rfl, rfl⟩)
              | (go_at_call 11; refine HT2.out.mono ?_; rintro e w3 ⟨rfl, b3, kR3, kJ3⟩; have c3 := kR3.cell; have f3 := kR3.thaw; have z3 := kR3.lt; have c4 := kJ3.cell; have f4 := kJ3.thaw; have z4 := kJ3.lt))
            have kE := kR3.set8 (.int .i64 0) (.int .i64 0) (.int .i64 0) (.string ⟨#[]⟩) (.string ⟨#[]⟩) (.string ⟨#[]⟩) (.string ⟨#[]⟩) (.int .i64 0)
            have bE := below_set8 b3 (Nat.le_refl _) (.int .i64 0) (.int .i64 0) (.int .i64 0) (.string ⟨#[]⟩) (.string ⟨#[]⟩) (.string ⟨#[]⟩) (.string ⟨#[]⟩) (.int .i64 0)
            clear c3 f3 z3 c4 f4 z4 kR3 kJ3 b3
            generalize World.setCell _ _ _ = WE at *
            have cE := kE.cell
            exact bodyPost_ret (v := .tuple #[jv Job.zero, .int .i64 3]) (by simp [results, Tryd.results15, go_sem, cE, jv, Job.zero]) rfl ⟨by rw [hr.out], bE⟩
        · obtain ⟨n1, n2, n3, n4⟩ := ne_facts he2
          generalize (⟨(Job.text ⟨g, n, 3, D2, D3, D4, R6, z⟩).1.toArray⟩ : ByteArray) = X at *
          generalize ((Job.text ⟨g, n, 3, D2, D3, D4, R6, z⟩).2 : Int) = q at *
          clear he2 hp HT HI C0 C1 C2 C3 C4 C5 hno
          go_wp2_with (first
            | (go_at_call 33; refine (HN.out _).mono ?_; rintro e w' ⟨rfl, rfl⟩)
            | (go_at_call 11; refine HT2.out.mono ?_; rintro e w3 ⟨rfl, b3, kR3, kJ3⟩; have c3 := kR3.cell; have f3 := kR3.thaw; have z3 := kR3.lt; have c4 := kJ3.cell; have f4 := kJ3.thaw; have z4 := kJ3.lt))
          have kE := kR3.set8 (.int .i64 0) (.int .i64 0) (.int .i64 0) (.string ⟨#[]⟩) (.string ⟨#[]⟩) (.string ⟨#[]⟩) (.string ⟨#[]⟩) (.int .i64 0)
          have bE := below_set8 b3 (Nat.le_refl _) (.int .i64 0) (.int .i64 0) (.int .i64 0) (.string ⟨#[]⟩) (.string ⟨#[]⟩) (.string ⟨#[]⟩) (.string ⟨#[]⟩) (.int .i64 0)
          clear c3 f3 z3 c4 f4 z4 kR3 kJ3 b3
          generalize World.setCell _ _ _ = WE at *
          have cE := kE.cell
          exact bodyPost_ret (v := .tuple #[jv Job.zero, .int .i64 3]) (by simp [results, Tryd.results15, go_sem, cE, jv, Job.zero]) rfl ⟨by rw [hr.out], bE⟩
      · have n1 : (e1 != 0) = true := by simpa using he1
        have n2 : (e1 == 0) = false := by simpa using he1
        generalize (⟨(Job.text ⟨g, n, 3, D2, D3, D4, R6, z⟩).1.toArray⟩ : ByteArray) = X at *
        generalize ((Job.text ⟨g, n, 3, D2, D3, D4, R6, z⟩).2 : Int) = q at *
        clear he1 hp HT HI C0 C1 C2 C3 C4 C5 hno
        go_wp2_with (first
          | (go_at_call 33; refine (HN.out _).mono ?_; rintro e w' ⟨rfl, rfl⟩)
          | (go_at_call 11; refine HT2.out.mono ?_; rintro e w3 ⟨rfl, b3, kR3, kJ3⟩; have c3 := kR3.cell; have f3 := kR3.thaw; have z3 := kR3.lt; have c4 := kJ3.cell; have f4 := kJ3.thaw; have z4 := kJ3.lt))
        have kE := kR3.set8 (.int .i64 0) (.int .i64 0) (.int .i64 0) (.string ⟨#[]⟩) (.string ⟨#[]⟩) (.string ⟨#[]⟩) (.string ⟨#[]⟩) (.int .i64 0)
        have bE := below_set8 b3 (Nat.le_refl _) (.int .i64 0) (.int .i64 0) (.int .i64 0) (.string ⟨#[]⟩) (.string ⟨#[]⟩) (.string ⟨#[]⟩) (.string ⟨#[]⟩) (.int .i64 0)
        clear c3 f3 z3 c4 f4 z4 kR3 kJ3 b3
        generalize World.setCell _ _ _ = WE at *
        have cE := kE.cell
        exact bodyPost_ret (v := .tuple #[jv Job.zero, .int .i64 3]) (by simp [results, Tryd.results15, go_sem, cE, jv, Job.zero]) rfl ⟨by rw [hr.out], bE⟩
  · skip
    have kJ : Blk w1.heap.size #[.int .i64 0, .int .i64 0, .int .i64 1, .string D2, .string D3, .string D4, .string R6, .int .i64 0] (w1.alloc (.cells #[.int .i64 0, .int .i64 0, .int .i64 1, .string D2, .string D3, .string D4, .string R6, .int .i64 0] 25)) := heap_alloc_new w1 _
    have kR : Blk w.heap.size zcells (w1.alloc (.cells #[.int .i64 0, .int .i64 0, .int .i64 1, .string D2, .string D3, .string D4, .string R6, .int .i64 0] 25)) := (hB0.below b1 (by simp)).below (below_alloc1 _ _) (by omega)
    have bJ : Below w.heap.size w (w1.alloc (.cells #[.int .i64 0, .int .i64 0, .int .i64 1, .string D2, .string D3, .string D4, .string R6, .int .i64 0] 25)) := (bw.trans (b1.mono bw.size)).alloc (by omega) _
    go_upto_region 15 with (go_at_call 32; refine (HI.out _).mono ?_; rintro e w2 ⟨rfl, b2⟩; have kJ2 := kJ.below b2 kJ.lt; have kR2 := kR.below b2 kR.lt; have b2w := bJ.trans (b2.mono bJ.size); have c2 := kJ2.cell; have f2 := kJ2.thaw; have z2 := kJ2.lt)
    have HT2 : Hid (Calls Tryd.prog 11 #[.agg #[.int .i64 g, .int .i64 n, .int .i64 1, .string D2, .string D3, .string D4, .string R6, .int .i64 z]] ((((w2.setCell ⟨w1.heap.size, 0, none⟩ (.int .i64 g)).setCell ⟨w1.heap.size, 1, none⟩ (.int .i64 n)).setCell ⟨w1.heap.size, 7, none⟩ (.int .i64 z)).alloc (.cells #[.int .i64 g, .int .i64 n] 23)) fun e w' => e = .returned (.tuple #[.string ⟨(Job.text ⟨g, n, 1, D2, D3, D4, R6, z⟩).1.toArray⟩, .int .i64 ((Job.text ⟨g, n, 1, D2, D3, D4, R6, z⟩).2 : Nat)]) ∧ Below w.heap.size w w' ∧ Blk w.heap.size zcells w' ∧ Blk w1.heap.size #[.int .i64 g, .int .i64 n, .int .i64 1, .string D2, .string D3, .string D4, .string R6, .int .i64 z] w') := by
      have bN : Below w.heap.size w ((((w2.setCell ⟨w1.heap.size, 0, none⟩ (.int .i64 g)).setCell ⟨w1.heap.size, 1, none⟩ (.int .i64 n)).setCell ⟨w1.heap.size, 7, none⟩ (.int .i64 z)).alloc (.cells #[.int .i64 g, .int .i64 n] 23)) := (((b2w.setCell (p := ⟨w1.heap.size, 0, none⟩) hbw (.int .i64 g)).setCell (p := ⟨w1.heap.size, 1, none⟩) hbw (.int .i64 n)).setCell (p := ⟨w1.heap.size, 7, none⟩) hbw (.int .i64 z)).alloc (by simpa using b2w.size) _
      have kN : Blk w1.heap.size #[.int .i64 g, .int .i64 n, .int .i64 1, .string D2, .string D3, .string D4, .string R6, .int .i64 z] ((((w2.setCell ⟨w1.heap.size, 0, none⟩ (.int .i64 g)).setCell ⟨w1.heap.size, 1, none⟩ (.int .i64 n)).setCell ⟨w1.heap.size, 7, none⟩ (.int .i64 z)).alloc (.cells #[.int .i64 g, .int .i64 n] 23)) := Blk.below (C := #[.int .i64 g, .int .i64 n, .int .i64 1, .string D2, .string D3, .string D4, .string R6, .int .i64 z]) (((kJ2.set (i := 0) (by simp) (.int .i64 g)).set (i := 1) (by simp) (.int .i64 n)).set (i := 7) (by simp) (.int .i64 z)) (below_alloc1 _ _) (by simpa using z2)
      have rN : Blk w.heap.size zcells ((((w2.setCell ⟨w1.heap.size, 0, none⟩ (.int .i64 g)).setCell ⟨w1.heap.size, 1, none⟩ (.int .i64 n)).setCell ⟨w1.heap.size, 7, none⟩ (.int .i64 z)).alloc (.cells #[.int .i64 g, .int .i64 n] 23)) := Blk.below (((kR2.other (i := 0) hbR (.int .i64 g)).other (i := 1) hbR (.int .i64 n)).other (i := 7) hbR (.int .i64 z)) (below_alloc1 _ _) (by simpa using kR2.lt)
      exact (HT.out _ bN).mono fun e w' ⟨h1, h2⟩ => ⟨h1, bN.trans (h2.mono bN.size), rN.below h2 rN.lt, kN.below h2 kN.lt⟩
    rcases hE with ⟨rfl, rfl, hq, hx, hp⟩ | ⟨hno, hp⟩
    · have hr : Hid (Job.parse l = (⟨g, n, 1, D2, D3, D4, R6, z⟩, 0)) := hp
      have ht : Job.text ⟨g, n, 1, D2, D3, D4, R6, z⟩ = (Job.txt ⟨g, n, 1, D2, D3, D4, R6, z⟩, 0) := by unfold Job.text; rw [if_pos hq]
      rw [ht] at HT2
      have hx2 : ((⟨(Job.txt ⟨g, n, 1, D2, D3, D4, R6, z⟩).toArray⟩ : ByteArray).toList == s.toList) = true := by rw [tl_eq, tl_eq, hL]; exact beq_iff_eq.2 hx
      generalize (⟨(Job.txt ⟨g, n, 1, D2, D3, D4, R6, z⟩).toArray⟩ : ByteArray) = X at *
      clear hq hx ht hp HT HI C0 C1 C2 C3 C4 C5
      go_wp2_with (first
        | (go_at_call 33; refine (HN.out _).mono ?_; rintro e w' ⟨rfl, rfl⟩)
        | (go_at_call 11; refine HT2.out.mono ?_; rintro e w3 ⟨rfl, b3, kR3, kJ3⟩; have c3 := kR3.cell; have f3 := kR3.thaw; have z3 := kR3.lt; have c4 := kJ3.cell; have f4 := kJ3.thaw; have z4 := kJ3.lt))
      have kE := kR3.set8 (.int .i64 g) (.int .i64 n) (.int .i64 1) (.string D2) (.string D3) (.string D4) (.string R6) (.int .i64 z)
      have bE := below_set8 b3 (Nat.le_refl _) (.int .i64 g) (.int .i64 n) (.int .i64 1) (.string D2) (.string D3) (.string D4) (.string R6) (.int .i64 z)
      clear c3 f3 z3 c4 f4 z4 kR3 kJ3 b3
      generalize World.setCell _ _ _ = WE at *
      have cE := kE.cell
      exact bodyPost_ret (v := .tuple #[jv ⟨g, n, 1, D2, D3, D4, R6, z⟩, .int .i64 0]) (by simp [results, Tryd.results15, go_sem, cE, jv]) rfl ⟨by rw [hr.out], bE⟩
    · have hr : Hid (Job.parse l = (Job.zero, 3)) := hp
      by_cases he1 : e1 = 0
      · subst he1
        by_cases he2 : e2 = 0
        · subst he2
          by_cases hq : Job.chk ⟨g, n, 1, D2, D3, D4, R6, z⟩ = 0
          · have hx : Job.txt ⟨g, n, 1, D2, D3, D4, R6, z⟩ ≠ l := fun c => hno ⟨rfl, rfl, hq, c⟩
            have ht : Job.text ⟨g, n, 1, D2, D3, D4, R6, z⟩ = (Job.txt ⟨g, n, 1, D2, D3, D4, R6, z⟩, 0) := by unfold Job.text; rw [if_pos hq]
            rw [ht] at HT2
            have hx2 : ((⟨(Job.txt ⟨g, n, 1, D2, D3, D4, R6, z⟩).toArray⟩ : ByteArray).toList == s.toList) = false := by rw [tl_eq, tl_eq, hL]; exact beq_eq_false_iff_ne.2 hx
            generalize (⟨(Job.txt ⟨g, n, 1, D2, D3, D4, R6, z⟩).toArray⟩ : ByteArray) = X at *
            clear hq hx ht hp HT HI C0 C1 C2 C3 C4 C5 hno
            go_wp2_with (first
              | (go_at_call 33; refine (HN.out _).mono ?_; rintro e w' ⟨rfl, rfl⟩)
              | (go_at_call 11; refine HT2.out.mono ?_; rintro e w3 ⟨rfl, b3, kR3, kJ3⟩; have c3 := kR3.cell; have f3 := kR3.thaw; have z3 := kR3.lt; have c4 := kJ3.cell; have f4 := kJ3.thaw; have z4 := kJ3.lt))
            have kE := kR3.set8 (.int .i64 0) (.int .i64 0) (.int .i64 0) (.string ⟨#[]⟩) (.string ⟨#[]⟩) (.string ⟨#[]⟩) (.string ⟨#[]⟩) (.int .i64 0)
            have bE := below_set8 b3 (Nat.le_refl _) (.int .i64 0) (.int .i64 0) (.int .i64 0) (.string ⟨#[]⟩) (.string ⟨#[]⟩) (.string ⟨#[]⟩) (.string ⟨#[]⟩) (.int .i64 0)
            clear c3 f3 z3 c4 f4 z4 kR3 kJ3 b3
            generalize World.setCell _ _ _ = WE at *
            have cE := kE.cell
            exact bodyPost_ret (v := .tuple #[jv Job.zero, .int .i64 3]) (by simp [results, Tryd.results15, go_sem, cE, jv, Job.zero]) rfl ⟨by rw [hr.out], bE⟩
          · have ht : Job.text ⟨g, n, 1, D2, D3, D4, R6, z⟩ = ([], Job.chk ⟨g, n, 1, D2, D3, D4, R6, z⟩) := by unfold Job.text; rw [if_neg hq]
            rw [ht] at HT2
            obtain ⟨n1, n2, n3, n4⟩ := ne_facts hq
            generalize Job.chk ⟨g, n, 1, D2, D3, D4, R6, z⟩ = q at *
            clear hq ht hp HT HI C0 C1 C2 C3 C4 C5 hno
            go_wp2_with (first
              | (go_at_call 33; refine (HN.out _).mono ?_; rintro e w' ⟨rfl, rfl⟩)
              | (go_at_call 11; refine HT2.out.mono ?_; rintro e w3 ⟨rfl, b3, kR3, kJ3⟩; have c3 := kR3.cell; have f3 := kR3.thaw; have z3 := kR3.lt; have c4 := kJ3.cell; have f4 := kJ3.thaw; have z4 := kJ3.lt))
            have kE := kR3.set8 (.int .i64 0) (.int .i64 0) (.int .i64 0) (.string ⟨#[]⟩) (.string ⟨#[]⟩) (.string ⟨#[]⟩) (.string ⟨#[]⟩) (.int .i64 0)
            have bE := below_set8 b3 (Nat.le_refl _) (.int .i64 0) (.int .i64 0) (.int .i64 0) (.string ⟨#[]⟩) (.string ⟨#[]⟩) (.string ⟨#[]⟩) (.string ⟨#[]⟩) (.int .i64 0)
            clear c3 f3 z3 c4 f4 z4 kR3 kJ3 b3
            generalize World.setCell _ _ _ = WE at *
            have cE := kE.cell
            exact bodyPost_ret (v := .tuple #[jv Job.zero, .int .i64 3]) (by simp [results, Tryd.results15, go_sem, cE, jv, Job.zero]) rfl ⟨by rw [hr.out], bE⟩
        · obtain ⟨n1, n2, n3, n4⟩ := ne_facts he2
          generalize (⟨(Job.text ⟨g, n, 1, D2, D3, D4, R6, z⟩).1.toArray⟩ : ByteArray) = X at *
          generalize ((Job.text ⟨g, n, 1, D2, D3, D4, R6, z⟩).2 : Int) = q at *
          clear he2 hp HT HI C0 C1 C2 C3 C4 C5 hno
          go_wp2_with (first
            | (go_at_call 33; refine (HN.out _).mono ?_; rintro e w' ⟨rfl, rfl⟩)
            | (go_at_call 11; refine HT2.out.mono ?_; rintro e w3 ⟨rfl, b3, kR3, kJ3⟩; have c3 := kR3.cell; have f3 := kR3.thaw; have z3 := kR3.lt; have c4 := kJ3.cell; have f4 := kJ3.thaw; have z4 := kJ3.lt))
          have kE := kR3.set8 (.int .i64 0) (.int .i64 0) (.int .i64 0) (.string ⟨#[]⟩) (.string ⟨#[]⟩) (.string ⟨#[]⟩) (.string ⟨#[]⟩) (.int .i64 0)
          have bE := below_set8 b3 (Nat.le_refl _) (.int .i64 0) (.int .i64 0) (.int .i64 0) (.string ⟨#[]⟩) (.string ⟨#[]⟩) (.string ⟨#[]⟩) (.string ⟨#[]⟩) (.int .i64 0)
          clear c3 f3 z3 c4 f4 z4 kR3 kJ3 b3
          generalize World.setCell _ _ _ = WE at *
          have cE := kE.cell
          exact bodyPost_ret (v := .tuple #[jv Job.zero, .int .i64 3]) (by simp [results, Tryd.results15, go_sem, cE, jv, Job.zero]) rfl ⟨by rw [hr.out], bE⟩
      · have n1 : (e1 != 0) = true := by simpa using he1
        have n2 : (e1 == 0) = false := by simpa using he1
        generalize (⟨(Job.text ⟨g, n, 1, D2, D3, D4, R6, z⟩).1.toArray⟩ : ByteArray) = X at *
        generalize ((Job.text ⟨g, n, 1, D2, D3, D4, R6, z⟩).2 : Int) = q at *
        clear he1 hp HT HI C0 C1 C2 C3 C4 C5 hno
        go_wp2_with (first
          | (go_at_call 33; refine (HN.out _).mono ?_; rintro e w' ⟨rfl, rfl⟩)
          | (go_at_call 11; refine HT2.out.mono ?_; rintro e w3 ⟨rfl, b3, kR3, kJ3⟩; have c3 := kR3.cell; have f3 := kR3.thaw; have z3 := kR3.lt; have c4 := kJ3.cell; have f4 := kJ3.thaw; have z4 := kJ3.lt))
        have kE := kR3.set8 (.int .i64 0) (.int .i64 0) (.int .i64 0) (.string ⟨#[]⟩) (.string ⟨#[]⟩) (.string ⟨#[]⟩) (.string ⟨#[]⟩) (.int .i64 0)
        have bE := below_set8 b3 (Nat.le_refl _) (.int .i64 0) (.int .i64 0) (.int .i64 0) (.string ⟨#[]⟩) (.string ⟨#[]⟩) (.string ⟨#[]⟩) (.string ⟨#[]⟩) (.int .i64 0)
        clear c3 f3 z3 c4 f4 z4 kR3 kJ3 b3
        generalize World.setCell _ _ _ = WE at *
        have cE := kE.cell
        exact bodyPost_ret (v := .tuple #[jv Job.zero, .int .i64 3]) (by simp [results, Tryd.results15, go_sem, cE, jv, Job.zero]) rfl ⟨by rw [hr.out], bE⟩
end Go.Proofs.YthjlhbbhdliffaaDoor
