/-
  Walks of layer 13: Join.
-/
import Derived.Test.YteiajngfeiemkabDoorPaD
namespace Go.Proofs.YteiajngfeiemkabDoor
open Go.RowKit
namespace Pa
theorem join_end (s : List UInt8) : join s [] = .error 2 := rfl
theorem join_last {s : List UInt8} {p : Pc} {r : List Pc} (h : p.tg = 122) (hr : r = []) : join s (p :: r) = wh s p.data := by
  unfold join wh; rw [if_pos ⟨h, hr⟩]
theorem join_form {s : List UInt8} {p : Pc} {r : List Pc} (h : ¬ (p.tg = 122 ∧ r = [])) (h2 : ¬ p.tg = 100) : join s (p :: r) = .error 3 := by
  unfold join; rw [if_neg h, if_pos h2]
theorem join_long {s : List UInt8} {p : Pc} {r : List Pc} (h2 : p.tg = 100) (h3 : 6000 < s.length + p.data.length) : join s (p :: r) = .error 5 := by
  unfold join; rw [if_neg (by omega), if_neg (by omega), if_pos h3]
theorem join_more {s : List UInt8} {p : Pc} {r : List Pc} (h2 : p.tg = 100) (h3 : ¬ 6000 < s.length + p.data.length) : join s (p :: r) = join (s ++ p.data) r := by
  rw [join, if_neg (by omega), if_neg (by omega), if_neg h3]
theorem pred (n : Nat) (h : 1 ≤ n) (h2 : n ≤ 10000) : ∃ n1 : Nat, Hid (n = n1 + 1) ∧ wrap64 ((n : Int) - 1) = (n1 : Int) ∧ IntKind.i64.wrap ((n : Int) - 1) = (n1 : Int) := by
  refine ⟨n - 1, ?_, ?_, ?_⟩
  · show n = n - 1 + 1; omega
  · unfold wrap64; omega
  · rw [IntKind.wrap_i64]; omega
theorem both (a b c : Nat) (ha : a ≤ 6000) (hb : b = c) (hc : c ≤ 9000) : ∃ S sl : Nat, Hid (sl = a) ∧ Hid (S = a + c) ∧ wrap64 ((sl : Int) + (b : Int)) = (S : Int) ∧ IntKind.i64.wrap ((sl : Int) + (b : Int)) = (S : Int) := by
  refine ⟨a + c, a, rfl, rfl, ?_, ?_⟩
  · unfold wrap64; omega
  · rw [IntKind.wrap_i64]; omega
theorem dec_big {S : Nat} (h : 6000 < S) : decide ((6000 : Int) < (S : Int)) = true := by simp; omega
theorem dec_small {S : Nat} (h : ¬ 6000 < S) : decide ((6000 : Int) < (S : Int)) = false := by simp; omega
theorem app_le {a b : List UInt8} (h : ¬ 6000 < a.length + b.length) : (a ++ b).length ≤ 6000 := by rw [List.length_append]; omega
theorem app_big (a : List UInt8) (D : ByteArray) (b : List UInt8) (ha : a.length ≤ 6000) (hb : D.size = b.length) (hc : b.length ≤ 9000) : (Lib.byteCells a).length + D.size ≤ 140737488355328 := by
  have : (Lib.byteCells a).length = a.length := by simp [Lib.byteCells]
  omega
theorem not_last {i n n1 : Nat} (hn : n = n1 + 1) (h : ¬ ((122 : Int) = 122 ∧ i + 1 = n)) : ((i : Int) == (n1 : Int)) = false ∧ (i == n1) = false := by
  have : ¬ i = n1 := fun e => h ⟨rfl, by omega⟩
  exact ⟨by rw [beq_eq_false_iff_ne]; omega, by rw [beq_eq_false_iff_ne]; exact this⟩
theorem is_last {i n n1 : Nat} (hn : n = n1 + 1) (h : i + 1 = n) : ((i : Int) == (n1 : Int)) = true ∧ (i == n1) = true := by
  have : i = n1 := by omega
  exact ⟨by rw [beq_iff_eq, this], by rw [beq_iff_eq]; exact this⟩
theorem drop_cons {l : List Pc} {i : Nat} {x : Pc} (h : i < l.length) (hx : l[i] = x) : l.drop i = x :: l.drop (i + 1) := by
  rw [List.drop_eq_getElem_cons h, hx]
theorem drop_last {l : List Pc} {i : Nat} (h : i < l.length) : l.drop (i + 1) = [] ↔ i + 1 = l.length := by
  rw [List.drop_eq_nil_iff]; omega
end Pa
theorem byteCells_len (l : List UInt8) : (Lib.byteCells l).length = l.length := by simp [Lib.byteCells]
theorem byteCells_join (s : List UInt8) (d : List UInt8) : Lib.byteCells s ++ Lib.strCells ⟨d.toArray⟩ = Lib.byteCells (s ++ d) := by simp [Lib.byteCells, Lib.strCells]
/-- what stands within a round -/
structure JIn (w : World) (s : List UInt8) (P : Nat) (xt : Int) (D : ByteArray) (W : World) : Prop where
  bel : Below w.heap.size w W
  bld : Lib.IsBuilderF 41 5 w.heap.size w.heap.size (Lib.byteCells s) W
  bk : Rg.Bk P [.int .i64 xt, .string D] 34 W
theorem JIn.drew {w : World} {s : List UInt8} {P : Nat} {xt : Int} {D : ByteArray} {W : World} (h : JIn w s P xt D W) : JIn w s P xt D W.drew := ⟨h.bel.drew, bkept h.bld (fun _ _ _ => rfl), h.bk.drew⟩
/-- what stands behind String -/
structure JOut (w : World) (P : Nat) (xt : Int) (D : ByteArray) (W : World) : Prop where
  bel : Below w.heap.size w W
  bk : Rg.Bk P [.int .i64 xt, .string D] 34 W
theorem JOut.drew {w : World} {P : Nat} {xt : Int} {D : ByteArray} {W : World} (h : JOut w P xt D W) : JOut w P xt D W.drew := ⟨h.bel.drew, h.bk.drew⟩
theorem jstr {w : World} {s : List UInt8} {P : Nat} {xt : Int} {D : ByteArray} (hP : w.heap.size < P) (W : World) (h : JIn w s P xt D W) :
    Calls Tryd.prog 12 #[.pointer (some ⟨w.heap.size, 0, none⟩)] W fun e w' => e = .returned (.string ⟨s.toArray⟩) ∧ JOut w P xt D w' ∧ w'.cell? ⟨P, 1, none⟩ = some (.string D) :=
  (Tryd.Builder_String_any_k w.heap.size w.heap.size s W h.bld h.bel.size).mono fun _ w' ⟨h1, _, h3, h4⟩ => by
    have k : Rg.Bk P [.int .i64 xt, .string D] 34 w' := h4 P _ h.bk (fun e => by cases e; omega) (fun c fz e => by cases e)
    exact ⟨h1, ⟨h.bel.trans h3, k⟩, k.cell 1⟩
set_option maxHeartbeats 4000000 in
set_option maxRecDepth 100000 in
theorem pjoin_any (l : List Pa.Pc) (hn : l.length ≤ 10000) (hd : ∀ p ∈ l, p.data.length ≤ 9000) (a : Option Addr) (ca : Nat) (w : World) (hrow : Hid (PRow w a l)) (htab : Lib.TabIs Tryd.prog w "internal/strconv.uint64pow10" .u64 Lib.pow10Tab) :
    Calls Tryd.prog 6 #[.slice a l.length ca] w fun e w' => e = .returned (Pa.joinV (Pa.join [] l)) ∧ Below w.heap.size w w' := by
  obtain ⟨n, hnl⟩ : ∃ n, n = l.length := ⟨_, rfl⟩
  rw [← hnl]
  have hn1 : n ≤ 10000 := by omega
  generalize hR : Pa.join [] l = R
  replace hR := Rg.hid hR
  replace hnl := Rg.hid hnl
  replace hd := Rg.hid hd
  replace htab := Rg.hid htab
  clear hn
  go_enter Tryd.func6, Tryd.ntmps6
  go_wp2
  go_loopw [9] (fun vi wr => ∃ (i : Nat) (s : List UInt8), i ≤ n ∧ vi = .int .i64 i ∧ s.length ≤ 6000 ∧ Hid (Pa.join s (l.drop i) = R) ∧ Hid (Lib.IsBuilderF 41 5 w.heap.size w.heap.size (Lib.byteCells s) wr) ∧ Below w.heap.size w wr) (fun vi _ => n - (intOf vi).toNat)
  case atStart => exact ⟨0, [], Nat.zero_le _, rfl, by simp, hR, Lib.IsBuilderF.of (Lib.fresh_isBuilder 41 5 w), (Below.refl _ w).alloc (Nat.le_refl _) _⟩
  case round =>
    obtain ⟨i, s, hin, rfl, hs6, hG, hB, hbw⟩ := hrel
    by_cases hlt : i < n
    · have hil : i < l.length := by rw [← hnl.out]; exact hlt
      obtain ⟨x, hx⟩ : ∃ x, l[i] = x := ⟨_, rfl⟩
      have hxd : x.data.length ≤ 9000 := hd.out x (by rw [← hx]; exact List.getElem_mem hil)
      have hdr := Pa.drop_cons hil hx
      obtain ⟨b1, o1, rfl, hb1, ha1⟩ : ∃ b o, a = some ⟨b, o, none⟩ ∧ b < w.heap.size ∧ Rg.At w b o (parE.flat l) := by
        rcases hrow.out with h | h
        · rw [h] at hil; simp at hil
        · exact h
      have y1 := par_at ((ha1.elem hil).below hbw hb1)
      rw [hx, show parE.m = 2 from rfl] at y1
      obtain ⟨xt, xd⟩ := x
      obtain ⟨c0, c1⟩ := y1
      dsimp only at c0 c1 hxd
      obtain ⟨D, hD⟩ : ∃ D : ByteArray, D = ⟨xd.toArray⟩ := ⟨_, rfl⟩
      have hDs : D.size = xd.length := by rw [hD]; exact If.size_of xd
      rw [← hD] at c1
      replace hD := Rg.hid hD
      have iz0 : (0 : Int) ≤ (i : Int) := by omega
      have iz1 : (i : Int) < (n : Int) := by omega
      have hG' := hG.out
      rw [hdr] at hG'
      have hdl := Pa.drop_last hil
      rw [← hnl.out] at hdl
      generalize hrr : l.drop (i + 1) = r at *
      replace hrr := Rg.hid hrr
      obtain ⟨n1, hn1', w1, w2⟩ := Pa.pred n (by omega) hn1
      have bA := If.more hbw (.cells #[.int .i64 xt, .string D] 34)
      have kA : Rg.Bk wr.heap.size [.int .i64 xt, .string D] 34 (wr.alloc (.cells #[.int .i64 xt, .string D] 34)) := Rg.Bk.new rfl
      have hBA := Rg.hid (bkept (W' := wr.alloc (.cells #[.int .i64 xt, .string D] 34)) hB.out (fun k _ hk => Below.heap_alloc wr _ k hk))
      have hszA : w.heap.size ≤ (wr.alloc (.cells #[.int .i64 xt, .string D] 34)).heap.size := bA.size
      have hPB : w.heap.size < wr.heap.size := hB.out.elim (fun h => h.lt) (fun h => h.lt)
      clear hx ha1 hrow hil hdr hG hB
      replace hd := trivial
      go_upto_region 5 with fail
      have d0 := kA.cell 0; have d1 := kA.cell 1; simp only [List.getElem?_cons_zero, List.getElem?_cons_succ] at d0 d1
      clear c0 c1
      generalize wr.alloc _ = WA at *
      generalize wr.heap.size = P at *
      by_cases h122 : xt = 122 ∧ i + 1 = n
      · obtain ⟨rfl, hi1⟩ := h122
        have hr : R = Pa.wh s xd := by rw [← hG']; exact Pa.join_last rfl (hdl.2 hi1)
        obtain ⟨Z, ez, hZ⟩ : ∃ Z ez, Pa.joinV R = .tuple #[.string Z, .int .i64 ez] := by
          cases R with
          | ok t => exact ⟨_, _, rfl⟩
          | error e => exact ⟨_, _, rfl⟩
        obtain ⟨q1, q0⟩ := Pa.is_last hn1'.out hi1
        have HS : Hid (∀ W, JIn w s P 122 D W → Calls Tryd.prog 12 #[.pointer (some ⟨w.heap.size, 0, none⟩)] W fun e w' => e = .returned (.string ⟨s.toArray⟩) ∧ JOut w P 122 D w' ∧ w'.cell? ⟨P, 1, none⟩ = some (.string D)) := jstr hPB
        have hI : JIn w s P 122 D WA := ⟨bA, hBA.out, kA⟩
        have HH : Hid (∀ W, JOut w P 122 D W → Calls Tryd.prog 11 #[.string ⟨s.toArray⟩, .string D] W fun e w' => e = .returned (.tuple #[.string Z, .int .i64 ez]) ∧ Below w.heap.size w w' ∧ w'.cell? ⟨P, 1, none⟩ = some (.string D)) := fun W hW => by
          have h := pwhole_any s xd (by unfold maxLen; omega) W (tab_below htab.out hW.bel)
          rw [← hr, hZ, ← hD.out] at h
          exact h.mono fun e w' ⟨h1, h2⟩ => ⟨h1, Rg.chain hW.bel h2, (hW.bk.below h2 hW.bk.lt).cell 1⟩
        replace hZ := Rg.hid hZ
        clear hG' hr hdl hR htab hxd hDs hD hBA kA
        go_upto_region 6 with fail
        go_region_held3 (fun w' => w'.cell? ⟨P, 1, none⟩ = some (.string D)) (go_keep) (first
          | (go_at_call 12; refine (HS.out _ ?_).mono ?_; (first | exact hI | exact hI.drew); rintro e w2 ⟨rfl, o2, e1⟩)
          | (go_at_call 11; refine (HH.out _ ?_).mono ?_; (first | exact o2 | exact o2.drew); rintro e w3 ⟨rfl, b3, e3⟩))
        all_goals
          go_wp2
          go_ret2
          exact ⟨by rw [hZ.out]; rfl, b3⟩
      · by_cases h100 : xt = 100
        · subst h100
          obtain ⟨S, sl, hsl, hS, v1, v2⟩ := Pa.both s.length D.size xd.length hs6 hDs hxd
          have HL : Hid (∀ q, Calls Tryd.prog 13 #[.pointer (some ⟨w.heap.size, 0, none⟩)] (WA.drewN q) fun e w' => e = .returned (.int .i64 (sl : Int)) ∧ w' = WA.drewN q) := fun q => by
            have h := bldLen_any w.heap.size w.heap.size (Lib.byteCells s) (WA.drewN q) hBA.out
            rw [byteCells_len, ← hsl.out] at h
            exact h
          by_cases hbig : 6000 < S
          · have hr : Hid (R = .error 5) := by rw [← hG', Pa.join_long rfl (by rw [← hS.out]; exact hbig)]; rfl
            have q1 := Pa.dec_big hbig
            clear hG' hdl hR htab hxd hDs hD hBA h122
            go_upto_region 9 with fail
            go_quiet ((first | (go_at_call 13; exact Calls.quiet_of_same (HL.out _))))
            go_wp2
            go_ret2
            exact ⟨by rw [hr.out]; rfl, Rg.drewN bA _⟩
          · have hr : Hid (Pa.join (s ++ xd) r = R) := by
              have := hG'; rwa [Pa.join_more rfl (by rw [← hS.out]; exact hbig)] at this
            have q1 := Pa.dec_small hbig
            have hs2 : (s ++ xd).length ≤ 6000 := Pa.app_le (by rw [← hS.out]; exact hbig)
            have HW : Hid (∀ q, Calls Tryd.prog 14 #[.pointer (some ⟨w.heap.size, 0, none⟩), .string D] (WA.drewN q) fun e w' => e = .returned (.tuple #[.int .i64 D.size, .nilIface]) ∧ Hid (Lib.IsBuilderF 41 5 w.heap.size w.heap.size (Lib.byteCells (s ++ xd)) w') ∧ Below w.heap.size w w') := fun q => by
              have h := Bld.writeString w.heap.size w.heap.size (Lib.byteCells s) D (WA.drewN q) hBA.out (Pa.app_big s D xd hs6 hDs hxd) hszA
              rw [hD.out, byteCells_join, ← hD.out] at h
              exact h.mono fun e w' ⟨h1, h2, h3⟩ => ⟨h1, .inr h2, (Rg.drewN bA q).trans h3⟩
            clear hG' hdl hR htab hxd hDs hD hBA h122
            go_upto_region 9 with fail
            go_quiet ((first | (go_at_call 13; exact Calls.quiet_of_same (HL.out _))))
            go_wp2_with (go_at_call 14; refine (HW.out _).mono ?_; rintro e w3 ⟨rfl, h3, b3⟩)
            go_roundw
            case rel => exact ⟨i + 1, s ++ xd, by omega, by go_num, hs2, (by rw [hrr.out]; exact hr), h3, b3⟩
            case measure => simp [intOf]; omega
        · have hr : Hid (R = .error 3) := by
            rw [← hG', Pa.join_form (fun h => h122 ⟨h.1, hdl.1 h.2⟩) h100]; rfl
          have q1 : (xt == 100) = false := beq_eq_false_iff_ne.2 h100
          by_cases h1 : xt = 122
          · subst h1
            obtain ⟨q2, q0⟩ := Pa.not_last hn1'.out h122
            clear hG' hdl hR htab hxd hDs hD hBA h122 h100
            go_wp2
            go_ret2
            exact ⟨by rw [hr.out]; rfl, bA⟩
          · have q2 : (xt == 122) = false := beq_eq_false_iff_ne.2 h1
            clear hG' hdl hR htab hxd hDs hD hBA h122 h100 h1
            go_wp2
            go_ret2
            exact ⟨by rw [hr.out]; rfl, bA⟩
    · have hie : i = n := by omega
      have hr : Hid (R = .error 2) := by have := hG.out; rw [List.drop_of_length_le (by rw [← hnl.out]; omega), Pa.join_end] at this; exact this.symm
      clear hG hB hrow hd
      go_wp2
      go_ret2
      exact ⟨by rw [hr.out]; rfl, hbw⟩
end Go.Proofs.YteiajngfeiemkabDoor
