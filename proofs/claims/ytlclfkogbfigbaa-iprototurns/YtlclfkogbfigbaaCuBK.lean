/-
  Walks of layer 16: joined.
-/
import Derived.Test.YtlclfkogbfigbaaCuBJ
import Derived.BigQuiet
namespace Go.Proofs.Ytlclfkogbfigbaa
open Go.RowKit
namespace Ip
theorem jo_more {l : List Gp.Pc} {i : Nat} (h : i < l.length) (h2 : i + 1 < l.length) (e : l[i + 1].ch = l[i].ch) (B : List UInt8) : jo ⟨B.toArray⟩ (l.drop i) = jo ⟨(B ++ l[i].data.data.toList).toArray⟩ (l.drop (i + 1)) := by
  rw [List.drop_eq_getElem_cons h, List.drop_eq_getElem_cons h2]
  have hb : (⟨B.toArray⟩ : ByteArray) ++ l[i].data = ⟨(B ++ l[i].data.data.toList).toArray⟩ := by
    have := icat_bytes B l[i].data.data.toList
    simpa using this
  conv => lhs; unfold jo
  rw [if_pos e, hb]
theorem jo_out {l : List Gp.Pc} {i : Nat} (h : i < l.length) (e : ∀ h2 : i + 1 < l.length, ¬ l[i + 1].ch = l[i].ch) (B : List UInt8) : jo ⟨B.toArray⟩ (l.drop i) = ⟨l[i].ch, ⟨(B ++ l[i].data.data.toList).toArray⟩⟩ :: jo ⟨([] : List UInt8).toArray⟩ (l.drop (i + 1)) := by
  have hb : (⟨B.toArray⟩ : ByteArray) ++ l[i].data = ⟨(B ++ l[i].data.data.toList).toArray⟩ := by
    have := icat_bytes B l[i].data.data.toList
    simpa using this
  rw [List.drop_eq_getElem_cons h]
  by_cases h2 : i + 1 < l.length
  · rw [List.drop_eq_getElem_cons h2]
    conv => lhs; unfold jo
    rw [if_neg (e h2), hb]
    rfl
  · rw [List.drop_eq_nil_of_le (by omega)]
    conv => lhs; unfold jo
    rw [hb]
    rfl
end Ip
theorem BW.below {base b : Nat} {W W' : World} {S : List UInt8} (h : BW base b W S) (hb : Below W.heap.size W W') : BW base b W' S := h.kept fun k _ _ _ hk _ => hb.block k (Array.getElem?_eq_some_iff.1 hk).1
theorem own_row {base m cap : Nat} {W : World} {ao : Option Addr} {O : List Gp.Pc} (h : W.ownsRow base 42 2 (.slice ao m cap) m (pcE.flat O)) : ERow pcE W ao O := by
  rcases h.2 with ⟨e, e0⟩ | ⟨g, c2, cur, e, hbg, hgg, hle, _, hcs, htk⟩
  · left
    have := h.1
    rw [e0] at this
    cases O with
    | nil => rfl
    | cons x l => rw [pcE.flat_cons] at this; simp [pcE] at this
  · injection e with e1 e2 e3
    refine .inr ⟨g, 0, e1, (Array.getElem?_eq_some_iff.1 hgg).1, fun t u ht => ?_⟩
    rw [Nat.zero_add, cell_of_row W g t cur _ _ hgg]
    rw [← htk, List.getElem?_take] at ht
    split at ht
    · simpa using ht
    · cases ht
theorem jo_append {base m m1 cap : Nat} {w5 : World} {ao : Option Addr} {O : List Gp.Pc} (own5 : w5.ownsRow base 42 2 (.slice ao m cap) m (pcE.flat O)) (hm : O.length = m) (hm1 : m + 1 = m1) (ch : Int) (S : ByteArray) (hB : base ≤ w5.heap.size) (hn : m ≤ 1000000) :
    ∃ g' cap' w7, (Builtin.append_ #[29, 29] 29 #[.slice ao m cap, .slice (some ⟨w5.heap.size, 0, none⟩) 1 1]).run Try.prog (w5.alloc (.cells #[.int .i64 ch, .string S] 42)) = .ok (.slice (some ⟨g', 0, none⟩) m1 cap') w7 ∧ w7.ownsRow base 42 2 (.slice (some ⟨g', 0, none⟩) m1 cap') m1 (pcE.flat (O ++ [⟨ch, S⟩])) ∧ Below base w5 w7 ∧ (∀ k, k < w5.heap.size → (Value.slice ao m cap).ownBlock ≠ some k → w7.heap[k]? = w5.heap[k]?) := by
  subst hm hm1
  have b1 := Rg.al1 w5 (.cells #[.int .i64 ch, .string S] 42)
  have own6 := own_kept own5 fun g hg => b1.block g (own5.lt g hg).2
  have k0 : (w5.alloc (.cells #[.int .i64 ch, .string S] 42)).cell? ⟨w5.heap.size, 0, none⟩ = some (.int .i64 ch) := Rg.cell_new rfl rfl
  have k1 : (w5.alloc (.cells #[.int .i64 ch, .string S] 42)).cell? ((⟨w5.heap.size, 0, none⟩ : Addr).add 1) = some (.string S) := Rg.cell_new rfl rfl
  obtain ⟨g', cap', W2, r1, r2, r3, r4⟩ := piece_append own6 ⟨ch, S⟩ ⟨w5.heap.size, 0, none⟩ 1 (fun j u hj => by
    match j, hj with
    | 0, hj => simp [pcE] at hj; subst hj; exact k0
    | 1, hj => simp [pcE] at hj; subst hj; exact k1) (Nat.le_trans hB b1.size) hn
  refine ⟨g', cap', W2, r1, r2, (b1.mono hB).trans ⟨r3.os, r3.tape, r3.output, r3.size, fun k hk => r3.block k (Nat.lt_of_lt_of_le hk (Nat.le_trans hB b1.size)) (fun e => by have := (own6.lt k e.symm).1; omega)⟩, fun k hk hne => ?_⟩
  rw [r3.block k (Nat.lt_of_lt_of_le hk b1.size) (fun e => hne e.symm)]
  exact b1.block k hk
/-- what the loop of joined keeps -/
structure JQ (base b : Nat) (l : List Gp.Pc) (w wr : World) (i : Nat) (ao : Option Addr) (m cap : Nat) (B : List UInt8) (O : List Gp.Pc) : Prop where
  bel : Below base w wr
  bw : BW base b wr B
  own : wr.ownsRow base 42 2 (.slice ao m cap) m (pcE.flat O)
  len : O.length = m
  math : Ip.join l = O ++ Ip.jo ⟨B.toArray⟩ (l.drop i)
  lb : B.length ≤ 5000 * i
  lo : m ≤ i
theorem JQ.more {base b : Nat} {l : List Gp.Pc} {w wr w3 w4 : World} {i i1 : Nat} {ao : Option Addr} {m cap : Nat} {B : List UInt8} {O : List Gp.Pc} (h : JQ base b l w wr i ao m cap B O) (hi1 : i + 1 = i1) (hi : i < l.length) (h2 : i + 1 < l.length) (e : l[i + 1].ch = l[i].ch) (hs : l[i].data.size ≤ 5000) (hb : Below base w w3) (hw : BW base b w3 (B ++ l[i].data.data.toList)) (hown : w3.ownsRow base 42 2 (.slice ao m cap) m (pcE.flat O)) (h4 : Below w3.heap.size w3 w4) (hbs : base ≤ w3.heap.size) : JQ base b l w w4 i1 ao m cap (B ++ l[i].data.data.toList) O := by
  subst hi1
  refine ⟨hb.trans (h4.mono hbs), hw.below h4, own_kept hown fun g hg => h4.block g (hown.lt g hg).2, h.len, by rw [h.math, Ip.jo_more hi h2 e], ?_, by have := h.lo; omega⟩
  rw [List.length_append]
  have := h.lb
  have e2 : l[i].data.data.toList.length = l[i].data.size := rfl
  omega
theorem JQ.out {base b : Nat} {l : List Gp.Pc} {w wr w6 : World} {i i1 : Nat} {ao : Option Addr} {m m1 cap : Nat} {B : List UInt8} {O : List Gp.Pc} (h : JQ base b l w wr i ao m cap B O) (hi1 : i + 1 = i1) (hm1 : m + 1 = m1) (hi : i < l.length) (e : ∀ h2 : i + 1 < l.length, ¬ l[i + 1].ch = l[i].ch) (hb : Below base w w6) (hw : BW base b w6 []) {a2 : Option Addr} {cap2 : Nat} (hown : w6.ownsRow base 42 2 (.slice a2 m1 cap2) m1 (pcE.flat (O ++ [⟨l[i].ch, ⟨(B ++ l[i].data.data.toList).toArray⟩⟩]))) : JQ base b l w w6 i1 a2 m1 cap2 [] (O ++ [⟨l[i].ch, ⟨(B ++ l[i].data.data.toList).toArray⟩⟩]) := by
  subst hi1 hm1
  refine ⟨hb, hw, hown, by rw [List.length_append, h.len]; rfl, by rw [h.math, Ip.jo_out hi e, List.append_assoc]; rfl, Nat.zero_le _, by have := h.lo; omega⟩
set_option maxHeartbeats 4000000 in
set_option maxRecDepth 100000 in
theorem joined_any (l : List Gp.Pc) (n : Nat) (hn : Hid (n = l.length)) (hn1 : Hid (n ≤ 800000)) (a : Option Addr) (c : Nat) (w : World) (hr : Hid (ERow pcE w a l)) (hsz : Hid (∀ x ∈ l, x.data.size ≤ 5000)) :
    Calls Try.prog 16 #[.slice a n c] w fun e w' => ∃ ao cap, e = .returned (.slice ao (Ip.join l).length cap) ∧ Hid (ERow pcE w' ao (Ip.join l)) ∧ Hid (Below w.heap.size w w') ∧ Hid (∀ g o, ao = some ⟨g, o, none⟩ → w.heap.size ≤ g) := by
  have hS : Hid (∀ w1, w1 = w.alloc (.cells #[.pointer none, .slice none 0 0] 49) → JQ w.heap.size w.heap.size l w w1 0 none 0 0 [] []) := fun w1 e => by
    subst e
    exact ⟨Rg.al1 w _, BW.start (Nat.le_refl _) (Rg.Bk.new rfl), World.ownsRow_nil _ _ _ _, rfl, (Ip.jo_join l).symm, Nat.zero_le _, Nat.zero_le _⟩
  have hSz : Hid (∀ w1, w1 = w.alloc (.cells #[.pointer none, .slice none 0 0] 49) → w1.heap.size = w.heap.size + 1) := fun w1 e => by subst e; simp
  go_enter Try.func16, Try.ntmps16
  go_upto_region 3 with fail
  have hS1 := Rg.hid (hS.out _ rfl)
  clear hS hSz
  generalize World.alloc _ _ = w1 at *
  obtain ⟨b, hb⟩ : ∃ b, b = w.heap.size := ⟨_, rfl⟩
  rw [show JQ w.heap.size w.heap.size l w w1 0 none 0 0 [] [] = JQ w.heap.size b l w w1 0 none 0 0 [] [] by rw [hb]] at hS1
  rw [← hb]
  replace hb := Rg.hid hb
  go_wp2
  go_loopw [3, 9] (fun vo vi wr => ∃ (i : Nat) (ao : Option Addr) (m cap : Nat) (B : List UInt8) (O : List Gp.Pc), i ≤ n ∧ vi = .int .i64 i ∧ vo = .slice ao m cap ∧ Hid (JQ w.heap.size b l w wr i ao m cap B O)) (fun _ vi _ => n - (intOf vi).toNat)
  case atStart => exact ⟨0, none, 0, 0, [], [], Nat.zero_le _, rfl, rfl, hS1⟩
  case round =>
    clear hS1
    obtain ⟨i, ao, m, cap, B, O, hin, rfl, rfl, hJ⟩ := hrel
    by_cases hlt : i < n
    · have hil : i < l.length := by rw [← hn.out]; exact hlt
      obtain ⟨b1, o1, rfl, _, _, y1⟩ := (hr.out.below hJ.out.bel).cell hil
      replace y1 := pc_at y1
      have hsx := hsz.out _ (List.getElem_mem hil)
      obtain ⟨x, hx⟩ : ∃ x, x = l[i] := ⟨_, rfl⟩
      rw [← hx] at y1 hsx
      replace hx := Rg.hid hx
      obtain ⟨c0, c1⟩ := y1
      have em : pcE.m = 2 := rfl
      rw [em] at c0 c1
      clear em
      have iz0 : (0 : Int) ≤ (i : Int) := by omega
      have iz1 : (i : Int) < (n : Int) := by omega
      obtain ⟨i1, hi1⟩ : ∃ i1, i + 1 = i1 := ⟨_, rfl⟩
      have hi2 : (i : Int) + 1 = (i1 : Int) := by omega
      have hn2 := hn1.out
      have q1 : wrap64 ((i : Int) + 1) = (i1 : Int) := by unfold wrap64; omega
      have q2 : IntKind.i64.wrap ((i : Int) + 1) = (i1 : Int) := by rw [IntKind.wrap_i64]; omega
      have q3 : wrap64 (i1 : Int) = (i1 : Int) := by unfold wrap64; omega
      clear hn2 hi2
      have kx : Hid (Rg.Bk wr.heap.size [.int .i64 x.ch, .string x.data] 42 (wr.alloc (.cells #[.int .i64 x.ch, .string x.data] 42))) := Rg.Bk.new rfl
      have bx := Rg.hid (Rg.al1 wr (.cells #[.int .i64 x.ch, .string x.data] 42))
      go_upto_region 6 with fail
      generalize World.alloc _ _ = w2 at *
      obtain ⟨X, hX⟩ : ∃ X, X = wr.heap.size := ⟨_, rfl⟩
      rw [← hX] at kx ⊢
      replace hX := Rg.hid hX
      have hXo : Hid ((Value.slice ao m cap).ownBlock ≠ some X) := fun e => by have := (hJ.out.own.lt X e).2; have := hX.out; omega
      have hw2 := hJ.out.bw.below bx.out
      have own2 := own_kept hJ.out.own fun g hg => bx.out.block g (hJ.out.own.lt g hg).2
      have hbl : w.heap.size ≤ wr.heap.size := hJ.out.bel.size
      have bel2 : Below w.heap.size w w2 := hJ.out.bel.trans (bx.out.mono hbl)
      have HW := Rg.hid (hw2.write x.data (by have := hJ.out.lb; have := hn1.out; omega))
      have x1 : w2.cell? ⟨X, 1, none⟩ = some (.string x.data) := kx.out.cell 1
      clear c0 c1
      replace own2 := Rg.hid own2
      replace bel2 := Rg.hid bel2
      clear hbl hw2
      go_upto_region 7 with (go_at_call 31; refine HW.out.mono ?_; rintro e w3 ⟨rfl, hw3⟩)
      clear HW x1
      have kx3 := Rg.hid (kx.out.same (hw3.oth X _ _ _ kx.out (by decide) (by decide)))
      have own3 : Hid (w3.ownsRow w.heap.size 42 2 (.slice ao m cap) m (pcE.flat O)) := (own_kept own2.out fun g hg => by
        rcases own2.out.2 with ⟨e, _⟩ | ⟨g2, cap2, cur, e, _, hgg, _⟩
        · rw [e] at hg; simp [Value.ownBlock] at hg
        · rw [e] at hg
          simp [Value.ownBlock] at hg
          subst hg
          exact hw3.oth g2 _ _ _ hgg (by decide) (by decide))
      have bel3 := Rg.hid (bel2.out.trans hw3.bel)
      have bw3 := Rg.hid hw3.at_
      have z0 : w3.cell? ⟨X, 0, none⟩ = some (.int .i64 x.ch) := kx3.out.cell 0
      clear own2 bel2 kx hw3 bx
      by_cases hl2 : i1 < n
      · have hil2 : i + 1 < l.length := by rw [hi1, ← hn.out]; exact hl2
        obtain ⟨b2, o2, e2, _, _, y2⟩ := (hr.out.below bel3.out).cell hil2
        cases e2
        replace y2 := pc_at y2
        obtain ⟨y, hy⟩ : ∃ y, y = l[i + 1] := ⟨_, rfl⟩
        rw [← hy] at y2
        replace hy := Rg.hid hy
        obtain ⟨d0, d1⟩ := y2
        have em : pcE.m = 2 := rfl
        rw [em, hi1] at d0 d1
        clear em
        have iz2 : (0 : Int) ≤ (i1 : Int) := by omega
        have iz3 : (i1 : Int) < (n : Int) := by omega
        have dz : decide ((i1 : Int) < (n : Int)) = true := by simp; omega
        replace hi1 := Rg.hid hi1
        by_cases hch : y.ch = x.ch
        · have hc1 : (y.ch == x.ch) = true := by simp [hch]
          have hc2 : decide (y.ch = x.ch) = true := by simp [hch]
          replace hch := Rg.hid hch
          go_quiet (fail)
          have b4 := Rg.hid (Rg.drewN (Below.refl w3.heap.size w3) nq)
          clear z0 d0 d1
          generalize World.drewN _ _ = w4 at *
          have hJ4 := Rg.hid (hJ.out.more hi1.out hil hil2 (by rw [← hx.out, ← hy.out]; exact hch.out) (by rw [← hx.out]; exact hsx) bel3.out (by rw [← hx.out]; exact bw3.out) own3.out b4.out bel3.out.size)
          clear hJ bel3 bw3 own3 b4 kx3
          go_wp2
          go_roundw
          case rel => exact ⟨i1, ao, m, cap, _, O, by omega, rfl, rfl, hJ4⟩
          case measure => simp [intOf]; have := hi1.out; omega
        · have hc1 : (y.ch == x.ch) = false := by simp [hch]
          have hc2 : decide (y.ch = x.ch) = false := by simp [hch]
          have hne : Hid (∀ h2 : i + 1 < l.length, ¬ l[i + 1].ch = l[i].ch) := fun h2 => by rw [← hx.out, ← hy.out]; exact hch
          replace hch := Rg.hid hch
          go_quiet (fail)
          have b4 := Rg.hid (Rg.drewN (Below.refl w3.heap.size w3) nq)
          try clear z0
          try clear d0 d1
          generalize World.drewN _ _ = w4 at *
          have bw4 := Rg.hid (bw3.out.below b4.out)
          have own4 := Rg.hid (own_kept own3.out fun g hg => b4.out.block g (own3.out.lt g hg).2)
          have kx4 := Rg.hid (kx3.out.below b4.out kx3.out.lt)
          have bel4 := Rg.hid (bel3.out.trans (b4.out.mono bel3.out.size))
          clear bw3 own3 kx3 bel3 b4
          have z0 : w4.cell? ⟨X, 0, none⟩ = some (.int .i64 x.ch) := kx4.out.cell 0
          have HStr := Rg.hid ((bw4.out.below ((Below.refl w4.heap.size w4).drew)).str)
          obtain ⟨S, hS⟩ : ∃ S : ByteArray, S = ⟨(B ++ x.data.data.toList).toArray⟩ := ⟨_, rfl⟩
          rw [← hS] at HStr
          replace hS := Rg.hid hS
          go_wp2
          refine wp_region_held_drew (S := (fun (w' : World) => w'.cell? ⟨X, 0, none⟩ = some (.int .i64 x.ch))) (by kernel_rfl) ?_ (fun hH0 => ?_)
          · exact z0
          refine wpAnyH_take (i := 0) (oi := { dst := some 33, op := _, type := _, pos := _, after := _, guard := _ }) (v := ?_) rfl (by kernel_rfl) (by kernel_rfl) (by kernel_rfl) (fun _ _ _ h => h) (Or.inl ⟨by rfl, ?_⟩) (by assumption) ?_
          rotate_left
          · (intro w hSw; (try dsimp only at hSw); go_simp); (try with_reducible rfl)
          simp only [Act.put, List.setIfInBounds_toArray, List.set_cons_zero, List.set_cons_succ]
          refine wpAnyH_take (i := 1) (oi := { dst := some 34, op := _, type := _, pos := _, after := _, guard := _ }) (v := ?_) rfl (by kernel_rfl) (by kernel_rfl) (by kernel_rfl) (fun _ _ _ h => h) (Or.inl ⟨by rfl, ?_⟩) (by assumption) ?_
          rotate_left
          · (intro w hSw; (try dsimp only at hSw); go_simp); (try with_reducible rfl)
          simp only [Act.put, List.setIfInBounds_toArray, List.set_cons_zero, List.set_cons_succ]
          refine wpAnyH_take (i := 2) (oi := { dst := some 35, op := _, type := _, pos := _, after := _, guard := _ }) (v := ?_) rfl (by kernel_rfl) (by kernel_rfl) (by kernel_rfl) (fun _ _ _ h => h) (Or.inl ⟨by rfl, ?_⟩) (by assumption) ?_
          rotate_left
          · (intro w hSw; (try dsimp only at hSw); go_simp); (try with_reducible rfl)
          simp only [Act.put, List.setIfInBounds_toArray, List.set_cons_zero, List.set_cons_succ]
          refine wpAnyH_ready (rs := [3]) (by kernel_rfl) (by simp) ?_
          refine AllReadyH.cons (o := { dst := some 36, op := _, type := _, pos := _, after := _, guard := _ }) rfl (fun K hK => ?_) AllReadyH.nil
          go_simp
          go_at_call 11; refine HStr.out.mono ?_; rintro e w5 ⟨rfl, b5, ⟨ba, bv, kb5⟩, oth5⟩
          have kx5 := Rg.hid (kx4.out.same (oth5 X _ _ _ kx4.out (by decide)))
          have bel5 := Rg.hid (bel4.out.trans ((Below.refl _ _).drew.trans b5))
          have own5 : Hid (w5.ownsRow w.heap.size 42 2 (.slice ao m cap) m (pcE.flat O)) := (own_kept own4.out fun g hg => by
            rcases own4.out.2 with ⟨e, _⟩ | ⟨g2, cap2, cur, e, _, hgg, _⟩
            · rw [e] at hg; simp [Value.ownBlock] at hg
            · rw [e] at hg
              simp [Value.ownBlock] at hg
              subst hg
              exact oth5 g2 _ _ _ hgg (by decide))
          have z05 : w5.cell? ⟨X, 0, none⟩ = some (.int .i64 x.ch) := kx5.out.cell 0
          obtain ⟨m1, hm1⟩ : ∃ m1, m + 1 = m1 := ⟨_, rfl⟩
          replace hm1 := Rg.hid hm1
          obtain ⟨g', cap', w7, hap, own7, bel7, blk7⟩ := jo_append own5.out hJ.out.len hm1.out x.ch S bel5.out.size (by have := hJ.out.lo; have := hn1.out; omega)
          replace hap := Rg.hid hap
          replace own7 := Rg.hid own7
          replace bel7 := Rg.hid bel7
          have kb7 := Rg.hid (kb5.same (blk7 b kb5.lt (own_ne own5.out kb5 (by decide) (e := 0) rfl)))
          have z06 : (w5.alloc (.cells #[.int .i64 x.ch, .string S] 42)).cell? ⟨X, 0, none⟩ = some (.int .i64 x.ch) := (kx5.out.old _).cell 0
          have kx7 : Rg.Bk X [.int .i64 x.ch, .string x.data] 42 w7 := kx5.out.same (blk7 X kx5.out.lt hXo.out)
          have z07 : w7.cell? ⟨X, 0, none⟩ = some (.int .i64 x.ch) := kx7.cell 0
          clear kx7 kb5 oth5 b5 blk7
          refine hK.out _ _ ?_ (fun hR3 => ?_)
          · exact z05
          clear hK K hH0
          try simp only [Act.put, List.setIfInBounds_toArray, List.set_cons_zero, List.set_cons_succ]
          refine wpAnyH_take (i := 4) (oi := { dst := some 37, op := _, type := _, pos := _, after := _, guard := _ }) (v := ?_) rfl (by kernel_rfl) (by kernel_rfl) (by kernel_rfl) (fun _ _ _ h => h) (Or.inl ⟨by rfl, ?_⟩) (by assumption) ?_
          rotate_left
          · (intro w hSw; (try dsimp only at hSw); go_simp); (try with_reducible rfl)
          simp only [Act.put, List.setIfInBounds_toArray, List.set_cons_zero, List.set_cons_succ]
          refine wpAnyH_ready (rs := [5]) (by kernel_rfl) (by simp) ?_
          refine AllReadyH.cons (o := { dst := some 38, op := _, type := _, pos := _, after := _, guard := _ }) rfl (fun K hK => ?_) AllReadyH.nil
          go_simp
          refine hK.out _ _ ?_ (fun hR5 => ?_)
          · exact z06
          clear hK K hR3
          try simp only [Act.put, List.setIfInBounds_toArray, List.set_cons_zero, List.set_cons_succ]
          refine wpAnyH_ready (rs := [6]) (by kernel_rfl) (by simp) ?_
          refine AllReadyH.cons (o := { dst := some 39, op := _, type := _, pos := _, after := _, guard := _ }) rfl (fun K hK => ?_) AllReadyH.nil
          refine Rg.step_append_run (by rfl) (.tmp 33) (.tmp 38) 29 (by rfl) _ _ (by rfl) (by rfl) hap.out ?_
          refine hK.out _ _ ?_ (fun hR6 => ?_)
          · exact z07
          clear hK K hR5
          try simp only [Act.put, List.setIfInBounds_toArray, List.set_cons_zero, List.set_cons_succ]
          refine wpAnyH_take (i := 7) (oi := { dst := some 3, op := _, type := _, pos := _, after := _, guard := _ }) (v := ?_) rfl (by kernel_rfl) (by kernel_rfl) (by kernel_rfl) (fun _ _ _ h => h) (Or.inl ⟨by rfl, ?_⟩) (by assumption) ?_
          rotate_left
          · (intro w hSw; (try dsimp only at hSw); go_simp); (try with_reducible rfl)
          simp only [Act.put, List.setIfInBounds_toArray, List.set_cons_zero, List.set_cons_succ]
          refine wpAnyH_done (by kernel_rfl) ?_ _
          have HR := Rg.hid (BW.reset bw4.out.1 kb7.out)
          clear z0 z05 z06 z07 HStr hap kx4 own4 own5 bel4 bw4
          go_wp2_with (go_at_call 32; refine HR.out.mono ?_; rintro e w8 ⟨rfl, hw8⟩)
          have own8 : Hid (w8.ownsRow w.heap.size 42 2 (.slice (some ⟨g', 0, none⟩) m1 cap') m1 (pcE.flat (O ++ [⟨x.ch, S⟩]))) := (own_kept own7.out fun g hg => by
            rcases own7.out.2 with ⟨e, _⟩ | ⟨g2, cap2, cur, e, _, hgg, _⟩
            · rw [e] at hg; simp [Value.ownBlock] at hg
            · rw [e] at hg
              simp [Value.ownBlock] at hg
              subst hg
              exact hw8.oth g2 _ _ _ hgg (by decide) (by decide))
          have hJ8 := Rg.hid (hJ.out.out hi1.out hm1.out hil hne.out ((bel5.out.trans bel7.out).trans hw8.bel) hw8.at_ (by rw [← hx.out, ← hS.out]; exact own8.out))
          go_roundw
          case rel => exact ⟨i1, some ⟨g', 0, none⟩, m1, cap', [], _, by have := hi1.out; omega, rfl, rfl, hJ8⟩
          case measure => simp [intOf]; have := hi1.out; omega
      · have dz : decide ((i1 : Int) < (n : Int)) = false := by simp; omega
        have hne : Hid (∀ h2 : i + 1 < l.length, ¬ l[i + 1].ch = l[i].ch) := fun h2 => by have := hn.out; omega
        replace hi1 := Rg.hid hi1
        go_quiet (fail)
        have b4 := Rg.hid (Rg.drewN (Below.refl w3.heap.size w3) nq)
        try clear z0
        try clear d0 d1
        generalize World.drewN _ _ = w4 at *
        have bw4 := Rg.hid (bw3.out.below b4.out)
        have own4 := Rg.hid (own_kept own3.out fun g hg => b4.out.block g (own3.out.lt g hg).2)
        have kx4 := Rg.hid (kx3.out.below b4.out kx3.out.lt)
        have bel4 := Rg.hid (bel3.out.trans (b4.out.mono bel3.out.size))
        clear bw3 own3 kx3 bel3 b4
        have z0 : w4.cell? ⟨X, 0, none⟩ = some (.int .i64 x.ch) := kx4.out.cell 0
        have HStr := Rg.hid ((bw4.out.below ((Below.refl w4.heap.size w4).drew)).str)
        obtain ⟨S, hS⟩ : ∃ S : ByteArray, S = ⟨(B ++ x.data.data.toList).toArray⟩ := ⟨_, rfl⟩
        rw [← hS] at HStr
        replace hS := Rg.hid hS
        go_wp2
        refine wp_region_held_drew (S := (fun (w' : World) => w'.cell? ⟨X, 0, none⟩ = some (.int .i64 x.ch))) (by kernel_rfl) ?_ (fun hH0 => ?_)
        · exact z0
        refine wpAnyH_take (i := 0) (oi := { dst := some 33, op := _, type := _, pos := _, after := _, guard := _ }) (v := ?_) rfl (by kernel_rfl) (by kernel_rfl) (by kernel_rfl) (fun _ _ _ h => h) (Or.inl ⟨by rfl, ?_⟩) (by assumption) ?_
        rotate_left
        · (intro w hSw; (try dsimp only at hSw); go_simp); (try with_reducible rfl)
        simp only [Act.put, List.setIfInBounds_toArray, List.set_cons_zero, List.set_cons_succ]
        refine wpAnyH_take (i := 1) (oi := { dst := some 34, op := _, type := _, pos := _, after := _, guard := _ }) (v := ?_) rfl (by kernel_rfl) (by kernel_rfl) (by kernel_rfl) (fun _ _ _ h => h) (Or.inl ⟨by rfl, ?_⟩) (by assumption) ?_
        rotate_left
        · (intro w hSw; (try dsimp only at hSw); go_simp); (try with_reducible rfl)
        simp only [Act.put, List.setIfInBounds_toArray, List.set_cons_zero, List.set_cons_succ]
        refine wpAnyH_take (i := 2) (oi := { dst := some 35, op := _, type := _, pos := _, after := _, guard := _ }) (v := ?_) rfl (by kernel_rfl) (by kernel_rfl) (by kernel_rfl) (fun _ _ _ h => h) (Or.inl ⟨by rfl, ?_⟩) (by assumption) ?_
        rotate_left
        · (intro w hSw; (try dsimp only at hSw); go_simp); (try with_reducible rfl)
        simp only [Act.put, List.setIfInBounds_toArray, List.set_cons_zero, List.set_cons_succ]
        refine wpAnyH_ready (rs := [3]) (by kernel_rfl) (by simp) ?_
        refine AllReadyH.cons (o := { dst := some 36, op := _, type := _, pos := _, after := _, guard := _ }) rfl (fun K hK => ?_) AllReadyH.nil
        go_simp
        go_at_call 11; refine HStr.out.mono ?_; rintro e w5 ⟨rfl, b5, ⟨ba, bv, kb5⟩, oth5⟩
        have kx5 := Rg.hid (kx4.out.same (oth5 X _ _ _ kx4.out (by decide)))
        have bel5 := Rg.hid (bel4.out.trans ((Below.refl _ _).drew.trans b5))
        have own5 : Hid (w5.ownsRow w.heap.size 42 2 (.slice ao m cap) m (pcE.flat O)) := (own_kept own4.out fun g hg => by
          rcases own4.out.2 with ⟨e, _⟩ | ⟨g2, cap2, cur, e, _, hgg, _⟩
          · rw [e] at hg; simp [Value.ownBlock] at hg
          · rw [e] at hg
            simp [Value.ownBlock] at hg
            subst hg
            exact oth5 g2 _ _ _ hgg (by decide))
        have z05 : w5.cell? ⟨X, 0, none⟩ = some (.int .i64 x.ch) := kx5.out.cell 0
        obtain ⟨m1, hm1⟩ : ∃ m1, m + 1 = m1 := ⟨_, rfl⟩
        replace hm1 := Rg.hid hm1
        obtain ⟨g', cap', w7, hap, own7, bel7, blk7⟩ := jo_append own5.out hJ.out.len hm1.out x.ch S bel5.out.size (by have := hJ.out.lo; have := hn1.out; omega)
        replace hap := Rg.hid hap
        replace own7 := Rg.hid own7
        replace bel7 := Rg.hid bel7
        have kb7 := Rg.hid (kb5.same (blk7 b kb5.lt (own_ne own5.out kb5 (by decide) (e := 0) rfl)))
        have z06 : (w5.alloc (.cells #[.int .i64 x.ch, .string S] 42)).cell? ⟨X, 0, none⟩ = some (.int .i64 x.ch) := (kx5.out.old _).cell 0
        have kx7 : Rg.Bk X [.int .i64 x.ch, .string x.data] 42 w7 := kx5.out.same (blk7 X kx5.out.lt hXo.out)
        have z07 : w7.cell? ⟨X, 0, none⟩ = some (.int .i64 x.ch) := kx7.cell 0
        clear kx7 kb5 oth5 b5 blk7
        refine hK.out _ _ ?_ (fun hR3 => ?_)
        · exact z05
        clear hK K hH0
        try simp only [Act.put, List.setIfInBounds_toArray, List.set_cons_zero, List.set_cons_succ]
        refine wpAnyH_take (i := 4) (oi := { dst := some 37, op := _, type := _, pos := _, after := _, guard := _ }) (v := ?_) rfl (by kernel_rfl) (by kernel_rfl) (by kernel_rfl) (fun _ _ _ h => h) (Or.inl ⟨by rfl, ?_⟩) (by assumption) ?_
        rotate_left
        · (intro w hSw; (try dsimp only at hSw); go_simp); (try with_reducible rfl)
        simp only [Act.put, List.setIfInBounds_toArray, List.set_cons_zero, List.set_cons_succ]
        refine wpAnyH_ready (rs := [5]) (by kernel_rfl) (by simp) ?_
        refine AllReadyH.cons (o := { dst := some 38, op := _, type := _, pos := _, after := _, guard := _ }) rfl (fun K hK => ?_) AllReadyH.nil
        go_simp
        refine hK.out _ _ ?_ (fun hR5 => ?_)
        · exact z06
        clear hK K hR3
        try simp only [Act.put, List.setIfInBounds_toArray, List.set_cons_zero, List.set_cons_succ]
        refine wpAnyH_ready (rs := [6]) (by kernel_rfl) (by simp) ?_
        refine AllReadyH.cons (o := { dst := some 39, op := _, type := _, pos := _, after := _, guard := _ }) rfl (fun K hK => ?_) AllReadyH.nil
        refine Rg.step_append_run (by rfl) (.tmp 33) (.tmp 38) 29 (by rfl) _ _ (by rfl) (by rfl) hap.out ?_
        refine hK.out _ _ ?_ (fun hR6 => ?_)
        · exact z07
        clear hK K hR5
        try simp only [Act.put, List.setIfInBounds_toArray, List.set_cons_zero, List.set_cons_succ]
        refine wpAnyH_take (i := 7) (oi := { dst := some 3, op := _, type := _, pos := _, after := _, guard := _ }) (v := ?_) rfl (by kernel_rfl) (by kernel_rfl) (by kernel_rfl) (fun _ _ _ h => h) (Or.inl ⟨by rfl, ?_⟩) (by assumption) ?_
        rotate_left
        · (intro w hSw; (try dsimp only at hSw); go_simp); (try with_reducible rfl)
        simp only [Act.put, List.setIfInBounds_toArray, List.set_cons_zero, List.set_cons_succ]
        refine wpAnyH_done (by kernel_rfl) ?_ _
        have HR := Rg.hid (BW.reset bw4.out.1 kb7.out)
        clear z0 z05 z06 z07 HStr hap kx4 own4 own5 bel4 bw4
        go_wp2_with (go_at_call 32; refine HR.out.mono ?_; rintro e w8 ⟨rfl, hw8⟩)
        have own8 : Hid (w8.ownsRow w.heap.size 42 2 (.slice (some ⟨g', 0, none⟩) m1 cap') m1 (pcE.flat (O ++ [⟨x.ch, S⟩]))) := (own_kept own7.out fun g hg => by
          rcases own7.out.2 with ⟨e, _⟩ | ⟨g2, cap2, cur, e, _, hgg, _⟩
          · rw [e] at hg; simp [Value.ownBlock] at hg
          · rw [e] at hg
            simp [Value.ownBlock] at hg
            subst hg
            exact hw8.oth g2 _ _ _ hgg (by decide) (by decide))
        have hJ8 := Rg.hid (hJ.out.out hi1.out hm1.out hil hne.out ((bel5.out.trans bel7.out).trans hw8.bel) hw8.at_ (by rw [← hx.out, ← hS.out]; exact own8.out))
        go_roundw
        case rel => exact ⟨i1, some ⟨g', 0, none⟩, m1, cap', [], _, by have := hi1.out; omega, rfl, rfl, hJ8⟩
        case measure => simp [intOf]; have := hi1.out; omega
    · have hie : i = n := by omega
      subst hie
      have hfin : Ip.join l = O := by
        have := hJ.out.math
        rw [List.drop_eq_nil_of_le (by rw [← hn.out]; exact Nat.le_refl _)] at this
        rw [this]
        unfold Ip.jo
        simp
      have hm : Hid ((Ip.join l).length = m) := by show _ = _; rw [hfin]; exact hJ.out.len
      replace hfin := Rg.hid hfin
      go_wp2
      go_ret
      refine ⟨ao, cap, ?_, ?_, hJ.out.bel, fun g o e => (hJ.out.own.lt g (by rw [e]; rfl)).1⟩
      · rw [hm.out]
        rfl
      · rw [hfin.out]
        exact own_row hJ.out.own
end Go.Proofs.Ytlclfkogbfigbaa
