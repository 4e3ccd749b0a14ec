/-
  Layer 18: gather of the program.
-/
import Derived.Test.YtmilfamjkiemaaaGreatDoorSzBA
import Derived.WalkMore
namespace Go.Proofs.YtmilfamjkiemaaaGreatDoor
open Go.RowKit
theorem ba_nil {s : ByteArray} (h : s.toList = []) : s = ⟨#[]⟩ := by
  rw [tl_eq] at h
  have : s = Spl.ba s.data.toList := (Spl.ba_back s).symm
  rw [this, h]; rfl
theorem ba_same {s t : ByteArray} (h : s.toList = t.toList) : s = t := by
  rw [tl_eq, tl_eq] at h
  rw [← Spl.ba_back s, ← Spl.ba_back t, h]
namespace Spl
open Dsk
/-- what the first files say -/
def part (l : List Fl) (k : Int) (sys : ByteArray) (i : Nat) : List Hd := (l.take i).filterMap (pick l k sys)
theorem part_succ {l : List Fl} {k : Int} {sys : ByteArray} {i : Nat} (hi : i < l.length) : part l k sys (i + 1) = part l k sys i ++ (pick l k sys l[i]).toList := by
  unfold part
  rw [List.take_succ_eq_append_getElem hi, List.filterMap_append]
  cases h : pick l k sys l[i] <;> simp [h]
theorem part_all (l : List Fl) (k : Int) (sys : ByteArray) : part l k sys l.length = l.filterMap (pick l k sys) := by unfold part; rw [List.take_length]
theorem part_len (l : List Fl) (k : Int) (sys : ByteArray) (i : Nat) : (part l k sys i).length ≤ i := by
  unfold part
  exact Nat.le_trans (List.length_filterMap_le ..) (by rw [List.length_take]; omega)
end Spl
/-- what gather answers -/
def GthPost (l : List Dsk.Fl) (k : Int) (sys : ByteArray) (w : World) (e : Ending) (w' : World) : Prop := ∃ a c L, e = .returned (.slice a L.length c) ∧ Hid (Spl.Row (l.filterMap (Spl.pick l k sys)) L) ∧ Hid (heldE.Row w' a L) ∧ Hid (Below w.heap.size w w') ∧ Hid (∀ b o s, a = some ⟨b, o, s⟩ → w.heap.size ≤ b)
/-- what the library's sort leaves of a row of one's own, or of none -/
def SrtPost (base : Nat) (A : Option Addr) (L : List Spl.Hd) (e : Ending) (w' : World) (w : World) : Prop := e = .returned (.tuple #[]) ∧ ∃ L' : List Spl.Hd, L'.length = L.length ∧ L'.Perm L ∧ (L'.Pairwise fun a b => Spl.ltb b a = false) ∧ heldE.Row w' A L' ∧ Below base w w'
theorem byId_eg : ∀ args w, (callFunc 97 args).run Tryz.prog w = .ok (.enter 97 args) w := enters_of Tryz.func97 (by kernel_rfl) rfl
theorem sort_any (base : Nat) (A : Option Addr) (cap : Nat) (L : List Spl.Hd) (w : World) (hn : L.length ≤ 1000000) (h : HO base w A cap L) :
    Calls Tryz.prog 96 #[.slice A L.length cap, .func (.func 97) #[] #[]] w fun e w' => SrtPost base A L e w' w := by
  rcases h with ⟨rfl, rfl, rfl⟩ | ⟨g, rest, rfl, h⟩
  · exact (sort_none _ none 0 w).mono fun e w' ⟨h1, h2⟩ => ⟨h1, [], rfl, List.Perm.refl _, List.Pairwise.nil, .inl ⟨rfl, rfl⟩, by rw [h2]; exact Below.refl _ _⟩
  · exact (sort_own 97 byId_eg byId_gro base g cap L rest w (by omega) h).mono fun e w' ⟨h1, L', h2, h3, h4, h5⟩ => ⟨h1, L', h2.length_eq, h2, h3, h4, h5⟩

set_option maxHeartbeats 4000000 in
set_option maxRecDepth 100000 in
theorem gather_core (CS : Array Value) (k : Int) (sys : ByteArray) (l : List Dsk.Fl) (w : World)
    (HF : Hid (∀ W, Below w.heap.size w W → Calls Tryz.prog 44 #[.agg CS] W fun e w' => ∃ a c, e = .returned (.slice a l.length c) ∧ Hid (fileE.Row w' a l) ∧ Hid (Below W.heap.size W w')))
    (hm : Hid (Mild l)) (hw : Hid (Ok w)) (hCS : Hid (∀ W : World, Rg.Bk w.heap.size CS.toList 28 W → (loadVar 28 ⟨w.heap.size, 0, none⟩).run Tryz.prog W = .ok (.agg CS) W)) :
    Calls Tryz.prog 59 #[.agg CS, .int .i64 k, .string sys] w fun e w' => GthPost l k sys w e w' := by
  have kB : Hid (Rg.Bk w.heap.size CS.toList 28 (w.alloc (.cells CS 28))) := Rg.Bk.new rfl
  have hb := Rg.hid (Rg.al1 w (.cells CS 28))
  go_enter Tryz.func59, Tryz.ntmps59
  go_upto_region 1 with fail
  have hl1 := Rg.hid (hCS.out _ kB.out)
  generalize World.alloc _ _ = w1 at *
  obtain ⟨B, hB⟩ : ∃ B, B = w.heap.size := ⟨_, rfl⟩
  rw [← hB] at kB hl1 ⊢
  clear hB
  go_step3
  go_wp2_with (first | (with_reducible refine Rg.isld (.tmp 3) 28 ?_; refine Rg.lld (.tmp 3) 28 rfl hl1.out ?_) | (go_at_call 44; refine (HF.out _ hb.out).mono ?_; rintro e w2 ⟨fa, fc, rfl, hrow, b2⟩))
  go_step3
  go_wp2
  have hb2 := Rg.hid (Rg.chain hb.out b2.out)
  obtain ⟨N, hN⟩ : ∃ N, N = l.length := ⟨_, rfl⟩
  have hN6 : N ≤ 1000000 := by rw [hN]; exact hm.out.len
  have hall := Rg.hid (Spl.part_all l k sys)
  rw [← hN] at hall ⊢
  replace hN := Rg.hid hN
  have hw2 := Rg.hid (hw.out.below hb2.out)
  clear HF hb b2 hl1 kB hCS
  go_loopw [8, 21] (fun v8 vi wr => ∃ (i : Nat) (A : Option Addr) (cap : Nat), i ≤ N ∧ vi = .int .i64 i ∧ v8 = .slice A (Spl.part l k sys i).length cap ∧ Hid (HO w2.heap.size wr A cap (Spl.part l k sys i)) ∧ Below w2.heap.size w2 wr) (fun _ vi _ => N - (intOf vi).toNat)
  case atStart => exact ⟨0, none, 0, Nat.zero_le _, rfl, rfl, .inl ⟨rfl, rfl, rfl⟩, Below.refl _ _⟩
  case round =>
    obtain ⟨i, A, cap, hin, rfl, rfl, hHO, hbw⟩ := hrel
    by_cases hlt : i < N
    · have hil : i < l.length := by rw [← hN.out]; exact hlt
      have hps := Rg.hid (Spl.part_succ (k := k) (sys := sys) hil)
      have hnm := hm.out.nam _ (List.getElem_mem hil)
      obtain ⟨rb, ro, rfl, hrb, hat⟩ : ∃ b o, fa = some ⟨b, o, none⟩ ∧ b < w2.heap.size ∧ Rg.At w2 b o (fileE.flat l) := by
        rcases hrow.out with ⟨_, h⟩ | h
        · rw [h] at hil; simp at hil
        · exact h
      have at1 : Rg.At wr rb (ro + i * 2) (fileE.enc l[i]) := (hat.elem hil).below hbw hrb
      have hpl := Spl.part_len l k sys i
      generalize Spl.part l k sys i = P at *
      unfold Spl.pick at hps
      generalize l[i] = f at *
      obtain ⟨fnm, fdt⟩ := f
      dsimp only at hps hnm
      obtain ⟨c0, c1⟩ := file_at at1
      have HPF : Hid (∀ W, Calls Tryz.prog 95 #[.string fnm] W fun e w' => e = .returned (.tuple #[.int .i64 (Nam.pfile fnm.data.toList).1, .string (Spl.ba (Nam.pfile fnm.data.toList).2.1), .agg #[.int .i64 (Nam.pfile fnm.data.toList).2.2.1, .int .i64 (Nam.pfile fnm.data.toList).2.2.2.1], .int .i64 (Nam.pfile fnm.data.toList).2.2.2.2]) ∧ Below W.heap.size W w') := fun W => parseFile_any fnm W hnm
      have hsys : Hid ((Nam.pfile fnm.data.toList).2.2.2.2 = 0 → (Spl.ba (Nam.pfile fnm.data.toList).2.1).size ≤ maxLen) := fun q => by
        obtain ⟨_, q2, _⟩ := Nam.file_pfile q
        have q3 := (Nam.system_len q2).2
        rw [Spl.ba_size]
        unfold maxLen; omega
      have HH0 : Hid (∀ k' W, Below w2.heap.size w2 W → (Spl.ba (Nam.pfile fnm.data.toList).2.1).size ≤ maxLen → Calls Tryz.prog 43 #[.slice (some ⟨rb, ro, none⟩) N fc, .int .i64 k', .string (Spl.ba (Nam.pfile fnm.data.toList).2.1), .agg #[.int .i64 (Nam.pfile fnm.data.toList).2.2.1, .int .i64 (Nam.pfile fnm.data.toList).2.2.2.1]] W fun e w' => HPost (Spl.held l k' (Spl.ba (Nam.pfile fnm.data.toList).2.1) (Nam.pfile fnm.data.toList).2.2.1 (Nam.pfile fnm.data.toList).2.2.2.1) W e w') := fun k' W hW hs => by
        rw [hN.out]
        exact held_any _ fc l k' _ _ _ W hm.out (hrow.out.below hW) hs (hw2.out.below hW)
      generalize Nam.pfile fnm.data.toList = p at *
      obtain ⟨fk, fs, fg, fi, pE⟩ := p
      dsimp only at hps HPF hsys HH0
      generalize Spl.ba fs = sn at *
      have iz0 : (0 : Int) ≤ (i : Int) := by omega
      have iz1 : (i : Int) < (N : Int) := by omega
      have bF := Rg.al1 wr (.cells #[.string fnm, .string fdt] 84)
      have kF : Hid (Rg.Bk wr.heap.size [.string fnm, .string fdt] 84 (wr.alloc (.cells #[.string fnm, .string fdt] 84))) := Rg.Bk.new rfl
      have hHO1 := Rg.hid (hHO.out.below bF)
      have hbw1 := Rg.hid (Rg.chain hbw bF)
      clear at1 hat hil hnm hrow hHO hbw bF
      go_upto_region 6 with fail
      generalize World.alloc _ _ = wa at *
      obtain ⟨Q, hQ⟩ : ∃ Q, Q = wr.heap.size := ⟨_, rfl⟩
      rw [← hQ] at kF ⊢
      have f0 : wa.cell? ⟨Q, 0, none⟩ = some (.string fnm) := kF.out.cell 0
      clear hQ c0 c1 kF
      go_upto_region 7 with (go_at_call 95; refine (HPF.out _).mono ?_; rintro e wb ⟨rfl, bb⟩)
      have bI := Rg.al1 wb (.cells #[.int .i64 fg, .int .i64 fi] 31)
      have kI : Hid (Rg.Bk wb.heap.size [.int .i64 fg, .int .i64 fi] 31 (wb.alloc (.cells #[.int .i64 fg, .int .i64 fi] 31))) := Rg.Bk.new rfl
      have hHO2 := Rg.hid ((hHO1.out.below bb).below bI)
      have hbw2 := Rg.hid (Rg.chain (Rg.chain hbw1.out bb) bI)
      clear hHO1 hbw1 f0 HPF
      generalize World.alloc _ _ = wc2 at *
      obtain ⟨I, hI⟩ : ∃ I, I = wb.heap.size := ⟨_, rfl⟩
      rw [← hI] at kI ⊢
      clear hI bI bb
      by_cases hE : pE = 0
      rotate_left
      · have e0 : (pE != 0) = true := by rw [bne_iff_ne]; exact hE
        have hPN : Hid (Spl.part l k sys (i + 1) = P) := by show _ = _; rw [hps.out, if_neg (fun q => hE q.1)]; simp
        clear hps HH0 hsys kI
        go_wp2
        go_roundw
        case rel => exact ⟨i + 1, A, cap, by omega, by go_num, by rw [hPN.out], by rw [hPN.out]; exact hHO2, hbw2.out⟩
        case measure => simp [intOf]; omega
      subst hE
      have hsz := hsys.out rfl
      by_cases hk : fk = k
      rotate_left
      · have e0 : (fk != k) = true := by rw [bne_iff_ne]; exact hk
        have hPN : Hid (Spl.part l k sys (i + 1) = P) := by show _ = _; rw [hps.out, if_neg (fun q => hk q.2.1)]; simp
        clear hps HH0 hsys kI
        go_wp2
        go_roundw
        case rel => exact ⟨i + 1, A, cap, by omega, by go_num, by rw [hPN.out], by rw [hPN.out]; exact hHO2, hbw2.out⟩
        case measure => simp [intOf]; omega
      have e0 : (fk != k) = false := by simp [hk]
      have hkk := Rg.hid hk
      clear hk
      go_upto_region 8 with fail
      by_cases hs : sys = ⟨#[]⟩ ∨ sn = sys
      rotate_left
      · have hPN : Hid (Spl.part l k sys (i + 1) = P) := by show _ = _; rw [hps.out, if_neg (fun q => hs q.2.2)]; simp
        have s0 : ¬ sys.toList = [] := fun q => hs (.inl (ba_nil q))
        have s1 : sys.toList.isEmpty = false := by simpa using s0
        have s2 : (sn.toList == sys.toList) = false := by
          rw [beq_eq_false_iff_ne]
          exact fun q => hs (.inr (ba_same q))
        clear hps HH0 hsys kI hs
        go_wp2
        go_roundw
        case rel => exact ⟨i + 1, A, cap, by omega, by go_num, by rw [hPN.out], by rw [hPN.out]; exact hHO2, hbw2.out⟩
        case measure => simp [intOf]; omega
      have hss : sys.toList = [] ∨ (¬ sys.toList = [] ∧ sys.toList.isEmpty = false ∧ (sn.toList == sys.toList) = true) := by
        by_cases s0 : sys.toList = []
        · exact .inl s0
        · refine .inr ⟨s0, by simpa using s0, ?_⟩
          rcases hs with q | q
          · exact absurd (by rw [q, tl_eq]) s0
          · rw [q]; simp
      rcases hss with s0 | ⟨s0, s1, s2⟩
      · go_upto_region 9 with fail
        have i0 : wc2.cell? ⟨I, 0, none⟩ = some (.int .i64 fg) := kI.out.cell 0
        have i1 : wc2.cell? ⟨I, 1, none⟩ = some (.int .i64 fi) := kI.out.cell 1
        have HH := Rg.hid (HH0.out k wc2 hbw2.out hsz)
        unfold HPost at HH
        have hps2 : Hid (Spl.part l k sys (i + 1) = P ++ (Spl.held l k sn fg fi).toList) := by show _ = _; rw [hps.out, if_pos ⟨rfl, hkk.out, hs⟩]
        clear hps HH0 hsys kI e0 hs
        cases ho : Spl.held l k sn fg fi with
        | none =>
          rw [ho] at HH hps2
          have hPN : Hid (Spl.part l k sys (i + 1) = P) := by show _ = _; rw [hps2.out]; simp
          clear hps2 ho
          dsimp only [Option.getD_none, Option.isSome_none, hc, Spl.Hd.zero, Job.zero] at HH
          go_upto_region 10 with (go_at_call 43; refine HH.out.mono ?_; rintro e wd ⟨rfl, bd⟩)
          have bH := Rg.al1 wd (.cells #[.string ⟨#[]⟩, .int .i64 0, .int .i64 0, .int .i64 0, .string ⟨#[]⟩, .string ⟨#[]⟩, .string ⟨#[]⟩, .string ⟨#[]⟩, .int .i64 0, .string ⟨#[]⟩] 42)
          have hHO3 := Rg.hid ((hHO2.out.below bd).below bH)
          have hbw3 := Rg.hid (Rg.chain (Rg.chain hbw2.out bd) bH)
          clear i0 i1 hHO2 hbw2 HH
          generalize World.alloc _ _ = we at *
          go_wp2
          go_roundw
          case rel => exact ⟨i + 1, A, cap, by omega, by go_num, by rw [hPN.out], by rw [hPN.out]; exact hHO3, hbw3.out⟩
          case measure => simp [intOf]; omega
        | some h =>
          rw [ho] at HH hps2
          have hPN : Hid (Spl.part l k sys (i + 1) = P ++ [h]) := by show _ = _; rw [hps2.out]; rfl
          clear hps2 ho
          dsimp only [Option.getD_some, Option.isSome_some] at HH
          obtain ⟨ys, ⟨yg, yn, yk, yu, yf, yt, yc, yz⟩, yx⟩ := h
          unfold hc at HH
          dsimp only at HH
          go_upto_region 10 with (go_at_call 43; refine HH.out.mono ?_; rintro e wd ⟨rfl, bd⟩)
          have bH := Rg.al1 wd (.cells #[.string ys, .int .i64 yg, .int .i64 yn, .int .i64 yk, .string yu, .string yf, .string yt, .string yc, .int .i64 yz, .string yx] 42)
          have kH : Hid (Rg.Bk wd.heap.size [.string ys, .int .i64 yg, .int .i64 yn, .int .i64 yk, .string yu, .string yf, .string yt, .string yc, .int .i64 yz, .string yx] 42 (wd.alloc (.cells #[.string ys, .int .i64 yg, .int .i64 yn, .int .i64 yk, .string yu, .string yf, .string yt, .string yc, .int .i64 yz, .string yx] 42))) := Rg.Bk.new rfl
          have hHO3 := Rg.hid ((hHO2.out.below bd).below bH)
          have hbw3 := Rg.hid (Rg.chain (Rg.chain hbw2.out bd) bH)
          clear i0 i1 hHO2 hbw2 HH
          generalize World.alloc _ _ = we at *
          obtain ⟨G, hG⟩ : ∃ G, G = wd.heap.size := ⟨_, rfl⟩
          rw [← hG] at kH ⊢
          clear hG bd bH
          go_upto_region 11 with fail
          have hlh : Hid ((loadVar 42 ⟨G, 0, none⟩).run Tryz.prog we = .ok (.agg #[.string ys, .int .i64 yg, .int .i64 yn, .int .i64 yk, .string yu, .string yf, .string yt, .string yc, .int .i64 yz, .string yx]) we) := hld (h := ⟨ys, ⟨yg, yn, yk, yu, yf, yt, yc, yz⟩, yx⟩) kH.out
          have bE := Rg.al1 we (.cells #[.string ys, .int .i64 yg, .int .i64 yn, .int .i64 yk, .string yu, .string yf, .string yt, .string yc, .int .i64 yz, .string yx] 42)
          have hx : Rg.At (we.alloc (.cells #[.string ys, .int .i64 yg, .int .i64 yn, .int .i64 yk, .string yu, .string yf, .string yt, .string yc, .int .i64 yz, .string yx] 42)) we.heap.size 0 (heldE.enc ⟨ys, ⟨yg, yn, yk, yu, yf, yt, yc, yz⟩, yx⟩) := by
            have kb : Rg.Bk we.heap.size [.string ys, .int .i64 yg, .int .i64 yn, .int .i64 yk, .string yu, .string yf, .string yt, .string yc, .int .i64 yz, .string yx] 42 (we.alloc (.cells #[.string ys, .int .i64 yg, .int .i64 yn, .int .i64 yk, .string yu, .string yf, .string yt, .string yc, .int .i64 yz, .string yx] 42)) := Rg.Bk.new rfl
            intro t u ht
            rw [Nat.zero_add, kb.cell, ← ht]
            rfl
          obtain ⟨W', A', cap', hap, hHO4, hb4⟩ := (hHO3.out.below bE).append ⟨ys, ⟨yg, yn, yk, yu, yf, yt, yc, yz⟩, yx⟩ we.heap.size hx (Nat.le_trans hbw3.out.size bE.size) (by omega)
          replace hap := Rg.hid hap
          replace hHO4 := Rg.hid hHO4
          have hbw4 := Rg.hid (Below.trans (Rg.chain hbw3.out bE) hb4)
          have hln : Hid (P.length + 1 = (P ++ [(⟨ys, ⟨yg, yn, yk, yu, yf, yt, yc, yz⟩, yx⟩ : Spl.Hd)]).length) := by show _ = _; simp
          clear hx hb4 bE hHO3 hbw3 kH
          go_wp2_with (first | (with_reducible refine Rg.isld (.tmp 15) 42 ?_; refine Rg.lld (.tmp 15) 42 rfl hlh.out ?_) | (at_builtin; refine Rg.wpList_append_run rfl (.tmp 57) (.tmp 59) 49 rfl _ _ rfl rfl _ _ hap.out ?_))
          go_roundw
          case rel => exact ⟨i + 1, A', cap', by omega, by go_num, by rw [hPN.out, hln.out], by rw [hPN.out]; exact hHO4, hbw4.out⟩
          case measure => simp [intOf]; omega
      · go_upto_region 9 with fail
        have i0 : wc2.cell? ⟨I, 0, none⟩ = some (.int .i64 fg) := kI.out.cell 0
        have i1 : wc2.cell? ⟨I, 1, none⟩ = some (.int .i64 fi) := kI.out.cell 1
        have HH := Rg.hid (HH0.out k wc2 hbw2.out hsz)
        unfold HPost at HH
        have hps2 : Hid (Spl.part l k sys (i + 1) = P ++ (Spl.held l k sn fg fi).toList) := by show _ = _; rw [hps.out, if_pos ⟨rfl, hkk.out, hs⟩]
        clear hps HH0 hsys kI e0 hs
        cases ho : Spl.held l k sn fg fi with
        | none =>
          rw [ho] at HH hps2
          have hPN : Hid (Spl.part l k sys (i + 1) = P) := by show _ = _; rw [hps2.out]; simp
          clear hps2 ho
          dsimp only [Option.getD_none, Option.isSome_none, hc, Spl.Hd.zero, Job.zero] at HH
          go_upto_region 10 with (go_at_call 43; refine HH.out.mono ?_; rintro e wd ⟨rfl, bd⟩)
          have bH := Rg.al1 wd (.cells #[.string ⟨#[]⟩, .int .i64 0, .int .i64 0, .int .i64 0, .string ⟨#[]⟩, .string ⟨#[]⟩, .string ⟨#[]⟩, .string ⟨#[]⟩, .int .i64 0, .string ⟨#[]⟩] 42)
          have hHO3 := Rg.hid ((hHO2.out.below bd).below bH)
          have hbw3 := Rg.hid (Rg.chain (Rg.chain hbw2.out bd) bH)
          clear i0 i1 hHO2 hbw2 HH
          generalize World.alloc _ _ = we at *
          go_wp2
          go_roundw
          case rel => exact ⟨i + 1, A, cap, by omega, by go_num, by rw [hPN.out], by rw [hPN.out]; exact hHO3, hbw3.out⟩
          case measure => simp [intOf]; omega
        | some h =>
          rw [ho] at HH hps2
          have hPN : Hid (Spl.part l k sys (i + 1) = P ++ [h]) := by show _ = _; rw [hps2.out]; rfl
          clear hps2 ho
          dsimp only [Option.getD_some, Option.isSome_some] at HH
          obtain ⟨ys, ⟨yg, yn, yk, yu, yf, yt, yc, yz⟩, yx⟩ := h
          unfold hc at HH
          dsimp only at HH
          go_upto_region 10 with (go_at_call 43; refine HH.out.mono ?_; rintro e wd ⟨rfl, bd⟩)
          have bH := Rg.al1 wd (.cells #[.string ys, .int .i64 yg, .int .i64 yn, .int .i64 yk, .string yu, .string yf, .string yt, .string yc, .int .i64 yz, .string yx] 42)
          have kH : Hid (Rg.Bk wd.heap.size [.string ys, .int .i64 yg, .int .i64 yn, .int .i64 yk, .string yu, .string yf, .string yt, .string yc, .int .i64 yz, .string yx] 42 (wd.alloc (.cells #[.string ys, .int .i64 yg, .int .i64 yn, .int .i64 yk, .string yu, .string yf, .string yt, .string yc, .int .i64 yz, .string yx] 42))) := Rg.Bk.new rfl
          have hHO3 := Rg.hid ((hHO2.out.below bd).below bH)
          have hbw3 := Rg.hid (Rg.chain (Rg.chain hbw2.out bd) bH)
          clear i0 i1 hHO2 hbw2 HH
          generalize World.alloc _ _ = we at *
          obtain ⟨G, hG⟩ : ∃ G, G = wd.heap.size := ⟨_, rfl⟩
          rw [← hG] at kH ⊢
          clear hG bd bH
          go_upto_region 11 with fail
          have hlh : Hid ((loadVar 42 ⟨G, 0, none⟩).run Tryz.prog we = .ok (.agg #[.string ys, .int .i64 yg, .int .i64 yn, .int .i64 yk, .string yu, .string yf, .string yt, .string yc, .int .i64 yz, .string yx]) we) := hld (h := ⟨ys, ⟨yg, yn, yk, yu, yf, yt, yc, yz⟩, yx⟩) kH.out
          have bE := Rg.al1 we (.cells #[.string ys, .int .i64 yg, .int .i64 yn, .int .i64 yk, .string yu, .string yf, .string yt, .string yc, .int .i64 yz, .string yx] 42)
          have hx : Rg.At (we.alloc (.cells #[.string ys, .int .i64 yg, .int .i64 yn, .int .i64 yk, .string yu, .string yf, .string yt, .string yc, .int .i64 yz, .string yx] 42)) we.heap.size 0 (heldE.enc ⟨ys, ⟨yg, yn, yk, yu, yf, yt, yc, yz⟩, yx⟩) := by
            have kb : Rg.Bk we.heap.size [.string ys, .int .i64 yg, .int .i64 yn, .int .i64 yk, .string yu, .string yf, .string yt, .string yc, .int .i64 yz, .string yx] 42 (we.alloc (.cells #[.string ys, .int .i64 yg, .int .i64 yn, .int .i64 yk, .string yu, .string yf, .string yt, .string yc, .int .i64 yz, .string yx] 42)) := Rg.Bk.new rfl
            intro t u ht
            rw [Nat.zero_add, kb.cell, ← ht]
            rfl
          obtain ⟨W', A', cap', hap, hHO4, hb4⟩ := (hHO3.out.below bE).append ⟨ys, ⟨yg, yn, yk, yu, yf, yt, yc, yz⟩, yx⟩ we.heap.size hx (Nat.le_trans hbw3.out.size bE.size) (by omega)
          replace hap := Rg.hid hap
          replace hHO4 := Rg.hid hHO4
          have hbw4 := Rg.hid (Below.trans (Rg.chain hbw3.out bE) hb4)
          have hln : Hid (P.length + 1 = (P ++ [(⟨ys, ⟨yg, yn, yk, yu, yf, yt, yc, yz⟩, yx⟩ : Spl.Hd)]).length) := by show _ = _; simp
          clear hx hb4 bE hHO3 hbw3 kH
          go_wp2_with (first | (with_reducible refine Rg.isld (.tmp 15) 42 ?_; refine Rg.lld (.tmp 15) 42 rfl hlh.out ?_) | (at_builtin; refine Rg.wpList_append_run rfl (.tmp 57) (.tmp 59) 49 rfl _ _ rfl rfl _ _ hap.out ?_))
          go_roundw
          case rel => exact ⟨i + 1, A', cap', by omega, by go_num, by rw [hPN.out, hln.out], by rw [hPN.out]; exact hHO4, hbw4.out⟩
          case measure => simp [intOf]; omega
    · obtain rfl : i = N := by omega
      rw [hall.out] at hHO ⊢
      have hlen : (l.filterMap (Spl.pick l k sys)).length ≤ 1000000 := by rw [← hall.out]; exact Nat.le_trans (Spl.part_len l k sys i) hN6
      have HS := Rg.hid (sort_any w2.heap.size A cap (l.filterMap (Spl.pick l k sys)) wr hlen hHO.out)
      have hap := Rg.hid (Spl.jobs_apart (l := l) l k sys hm.out.srt)
      unfold SrtPost at HS
      obtain ⟨M, hM⟩ : ∃ M, M = l.filterMap (Spl.pick l k sys) := ⟨_, rfl⟩
      rw [← hM] at HS hap hlen ⊢
      replace hM := Rg.hid hM
      have hnn : ¬ i < i := Nat.lt_irrefl _
      have hnew : Hid (∀ b o s, A = some ⟨b, o, s⟩ → w.heap.size ≤ b) := fun b o s e => Nat.le_trans hb2.out.size (hHO.out.new e)
      clear hrow hm hHO hall hw hw2
      go_wp2_with (go_at_call 96; refine HS.out.mono ?_; rintro e w3 ⟨rfl, L', h1, h2, h3, h4, h5⟩)
      (try rw [Exit.noGoto_ret])
      go_ret
      exact ⟨A, cap, L', by rw [h1]; rfl, (by rw [← hM.out]; exact Spl.Row.of h2 hap.out h3 : Spl.Row (l.filterMap (Spl.pick l k sys)) L'), h4, Rg.chain hb2.out (hbw.trans h5), hnew⟩
/-- what a disk's files come to -/
theorem gather_any (v : Value) (d : Dsk.Dk) (k : Int) (sys : ByteArray) (w : World) (hd : Dsk.Ok d) (hm : Mild (Dsk.files d)) (h : DAt w v d) (hw : Ok w) :
    Calls Tryz.prog 59 #[v, .int .i64 k, .string sys] w fun e w' => GthPost (Dsk.files d) k sys w e w' := by
  obtain ⟨CS, rfl⟩ := h.agg
  refine gather_core CS k sys (Dsk.files d) w (fun W hW => (files_any _ d W hd (h.below hW)).mono fun e w' ⟨v, h1, h2, h3⟩ => ?_) hm hw (fun W hk => ?_)
  · obtain ⟨a, c, h4, h5⟩ := h2.shape
    exact ⟨a, c, by rw [h1, h4], h5, h3⟩
  · obtain ⟨sa, sc, oa, oc, e⟩ := h.cells
    subst e
    exact Rg.row_loadVar hk Tryz.underlying28 rfl diskU
end Go.Proofs.YtmilfamjkiemaaaGreatDoor
