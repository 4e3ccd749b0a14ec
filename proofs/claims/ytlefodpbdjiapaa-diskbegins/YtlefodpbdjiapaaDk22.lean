/-
  Layer 6: DiskFull.
-/
import Derived.Test.YtlefodpbdjiapaaDk21
namespace Go.Proofs.Ytlefodpbdjiapaa
open Go.RowKit

namespace Dsk
theorem burn_ever {d : Dk} (h : d.fuse = -1) : burn d = d := by
  unfold burn; rw [if_neg (by omega)]
theorem operate_ever {d : Dk} (h : d.fuse = -1) (o : Dop) : operate d o = (note d o, 0) := by
  unfold operate; rw [if_neg (by omega), burn_ever h]
theorem sync_ever {d : Dk} (h : d.fuse = -1) (h' : d.down = false) : sync d = (settle d d.ops.length, 0) := by
  unfold sync; rw [if_neg (by rw [h']; simp), if_neg (by omega), burn_ever h]
theorem files_note {d : Dk} (h : d.down = false) (o : Dop) : files (note d o) = after (files d) o := by
  unfold files
  rw [if_neg (by show ¬ d.down = true; rw [h]; simp), if_neg (by rw [h]; simp)]
  exact behind_snoc d.safe d.ops o
theorem files_settle {d : Dk} (h : d.down = false) : files (settle d d.ops.length) = files d := by
  unfold files
  rw [if_neg (by show ¬ d.down = true; rw [h]; simp), if_neg (by rw [h]; simp)]
  show behind (behind d.safe (d.ops.take d.ops.length)) [] = _
  rw [List.take_of_length_le (Nat.le_refl _)]; rfl
/-- DiskFull: the files have room -/
structure Full (rm : Int) (d : Dk) : Prop where
  ok : Ok d
  fuse : d.fuse = -1
  down : d.down = false
  cap : d.cap = room rm
  fit : (used (files d) : Int) ≤ room rm
theorem Full.play {rm : Int} {d : Dk} (h : Full rm d) (c : Cl) (hw : Wt d + c.x.size + 16 ≤ 10000000000) (hm : c.m ≤ 9223372036854775807) (hk : c.k ≤ 5) : Full rm (Dsk.play d c).1 ∧ ((Dsk.play d c).2 ≠ 0 → (Dsk.play d c).1 = d) := by
  have hok := (play_ok h.ok c hw hm).1
  by_cases hk4 : 1 ≤ c.k ∧ c.k ≤ 4
  · obtain ⟨o, hok1, _, _, _, q | ⟨_, hr, q⟩⟩ := do_cases d c hk4.1 hk4.2
    · obtain ⟨e, _, q⟩ := q
      rw [q]; exact ⟨h, fun _ => rfl⟩
    · rw [q, operate_ever h.fuse] at hok ⊢
      refine ⟨⟨hok, h.fuse, h.down, h.cap, ?_⟩, fun e => absurd rfl e⟩
      show (used (files (note d o)) : Int) ≤ _
      by_cases h2 : c.k ≤ 2
      · have := hr h2; rw [h.cap] at this; exact this
      · rw [files_note h.down]
        have := used_after (l := files d) o (by omega) (by omega)
        have := h.fit; omega
  · rcases play_other d c hk4 with ⟨_, e⟩ | ⟨e, _⟩ | ⟨e, _⟩ | ⟨e, _⟩ | ⟨_, e⟩
    · rw [e, sync_ever h.fuse h.down] at hok ⊢
      refine ⟨⟨hok, h.fuse, h.down, h.cap, ?_⟩, fun e => absurd rfl e⟩
      show (used (files (settle d d.ops.length)) : Int) ≤ _
      rw [files_settle h.down]; exact h.fit
    · omega
    · omega
    · omega
    · rw [e] at hok ⊢
      have e2 : start d = d := by
        obtain ⟨safe, ops, cap, fuse, down⟩ := d
        have := h.down
        dsimp only at this
        subst this; rfl
      exact ⟨by show Full rm (start d); rw [e2]; exact h, fun _ => e2⟩
theorem Full.new (rm : Int) : Full rm (new rm) := ⟨new_ok rm, rfl, rfl, rfl, by show ((0 : Nat) : Int) ≤ _; have := room_bd rm; omega⟩
theorem Full.over {rm : Int} {d : Dk} (h : Full rm d) : decide (max 0 rm < (used (files d) : Int)) = false ∧ decide ((60000 : Int) < (used (files d) : Int)) = false := by
  have h1 := h.fit
  have h2 := room_bd rm
  have h3 : room rm ≤ max 0 rm := by unfold room; split; (· omega); split <;> omega
  exact ⟨by simp only [decide_eq_false_iff_not]; omega, by simp only [decide_eq_false_iff_not]; omega⟩
end Dsk

set_option maxHeartbeats 4000000 in
set_option maxRecDepth 100000 in
theorem full_walk (rm : Int) (a : Option Addr) (ca : Nat) (l : List Dsk.Cl) (hn : l.length ≤ 1000000000000000) (hfit : ∀ c ∈ l, CFits c) (w : World) (hrow : CRow0 w a l) :
    Calls Try.prog 5 #[.int .i64 rm, .slice a l.length ca] w fun e w' => VPost (.bool true) w e w' := by
  have HH : Hid (Calls Try.prog 8 #[.slice a l.length ca] w fun e w' => HeavyPost l w e w') := heavy_any a ca l w hn hrow
  have HA : Hid (∀ W, Below w.heap.size w W → Calls Try.prog 9 #[] W fun e w' => VPost (.bool true) w e w') := fun W hW => (awake_any W).mono fun e w' ⟨h1, h2⟩ => ⟨h1, Rg.chain hW h2⟩
  obtain ⟨N, hN⟩ : ∃ N, N = l.length := ⟨_, rfl⟩
  rw [← hN] at HH hn ⊢
  replace hN := Rg.hid hN
  replace hrow := Rg.hid hrow
  replace hfit := Rg.hid hfit
  go_enter Try.func5, Try.ntmps5
  go_wp2_with (go_at_call 8; refine HH.out.mono ?_)
  intro e w1 h1
  obtain ⟨B, rfl, hB, b1⟩ := h1
  cases B
  case true =>
    go_wp2_with (go_at_call 9; refine (HA.out _ b1).mono ?_)
    rintro e w2 ⟨rfl, b2⟩
    go_wp2
    go_ret
    exact ⟨rfl, b2⟩
  case false =>
    have hL := hB rfl
    have hlen : N ≤ 150 := by rw [hN.out]; exact hL.len
    have hdat := Rg.hid hL.data
    have HNw : Hid (∀ W, Calls Try.prog 11 #[.int .i64 rm] W fun e w' => VPost (.agg #[.slice none 0 0, .slice none 0 0, .int .i64 (Dsk.room rm), .int .i64 (-1), .bool false]) W e w') := fun W => (new_any rm W).mono fun e w' ⟨h1, h2⟩ => ⟨h1, h2⟩
    have hD0 : Hid (∀ W, DAt W (.agg #[.slice none 0 0, .slice none 0 0, .int .i64 (Dsk.room rm), .int .i64 (-1), .bool false]) (Dsk.new rm)) := fun W => ⟨none, 0, none, 0, rfl, .inl ⟨rfl, rfl⟩, .inl ⟨rfl, rfl⟩, Nat.le_refl _, Nat.le_refl _⟩
    have hfu := Rg.hid (Dsk.Full.new rm)
    have hw0 : Dsk.Wt (Dsk.new rm) ≤ 0 := Nat.le_refl _
    generalize Dsk.new rm = d0 at *
    generalize Dsk.room rm = rn at *
    clear hB hL HH
    go_wp2_with (go_at_call 11; refine (HNw.out _).mono ?_)
    rintro e w2 ⟨rfl, b2⟩
    have hV := Rg.hid (DVar.new (hD0.out w2))
    have hbw2 := Rg.chain (Rg.chain b1 b2) (Rg.al1 w2 (.cells #[.slice none 0 0, .slice none 0 0, .int .i64 rn, .int .i64 (-1), .bool false] 28))
    have hVw : w.heap.size ≤ w2.heap.size := (Rg.chain b1 b2).size
    have hw00 := Rg.hid (show Dsk.Wt d0 ≤ 0 * 70016 by omega)
    clear HNw hD0 b1 b2
    go_wp2
    generalize w2.alloc _ = W2 at *
    generalize w2.heap.size = V at *
    go_loopw [17] (fun vi wr => ∃ (i : Nat) (d : Dsk.Dk), i ≤ N ∧ vi = .int .i64 i ∧ Hid (Dsk.Full rm d) ∧ Hid (Dsk.Wt d ≤ i * 70016) ∧ Hid (DVar V wr d) ∧ Below w.heap.size w wr) (fun vi _ => N - (intOf vi).toNat)
    case atStart => exact ⟨0, d0, Nat.zero_le _, rfl, hfu, hw00, hV, hbw2⟩
    case round =>
      obtain ⟨i, d, hin, rfl, hkp, hwt, hvar, hbw⟩ := hrel
      by_cases hlt : i < N
      · have hil : i < l.length := by rw [← hN.out]; exact hlt
        obtain ⟨b, o, rfl, hb, hat⟩ : ∃ b o, a = some ⟨b, o, none⟩ ∧ b < w.heap.size ∧ Rg.At w b o (callE.flat l) := by
          rcases hrow.out with h | h
          · rw [h] at hil; simp at hil
          · exact h
        have at1 : Rg.At wr b (o + i * 5) (callE.enc l[i]) := (hat.elem hil).below hbw hb
        have hcf : CFits l[i] := hfit.out _ (List.getElem_mem hil)
        have hcd : l[i].x.size ≤ 70000 := hdat.out _ (List.getElem_mem hil)
        generalize l[i] = c at *
        have hw1 := Rg.hid (show Dsk.Wt d + c.x.size + 16 ≤ 10000000000 by have := hwt.out; omega)
        have HP := Rg.hid (fun W v h => play_var c hcf d hkp.out.ok hw1.out W v h)
        have hnx : Hid (c.k ≤ 5 → Dsk.Full rm (Dsk.play d c).1 ∧ ((Dsk.play d c).2 ≠ 0 → (Dsk.play d c).1 = d)) := fun h1 => hkp.out.play c hw1.out hcf.m h1
        have hwx := Rg.hid (show Dsk.Wt (Dsk.play d c).1 ≤ (i + 1) * 70016 by have := (Dsk.play_ok hkp.out.ok c hw1.out hcf.m).2; have := hwt.out; omega)
        have hwx0 : Hid (Dsk.Wt d ≤ (i + 1) * 70016) := Nat.le_trans hwt.out (Nat.mul_le_mul_right _ (Nat.le_succ i))
        generalize Dsk.play d c = r at *
        obtain ⟨ck, cn, ct, cx, cm⟩ := c
        obtain ⟨c0, c1, c2, c3, c4⟩ := call_at at1
        dsimp only at HP hnx
        have hz0 : (0 : Int) ≤ (i : Int) := by omega
        have hz1 : (i : Int) < (N : Int) := by omega
        have bn := hbw.alloc hbw.size (.cells #[.int .i64 ck, .string cn, .string ct, .string cx, .int .i64 cm] 35)
        have hvn := Rg.hid (hvar.out.below (Rg.al1 wr (.cells #[.int .i64 ck, .string cn, .string ct, .string cx, .int .i64 cm] 35)))
        clear at1 hat hil hrow hcf hcd hw1 hwt
        by_cases hk5 : (5 : Int) < ck
        · have e3 : decide ((5 : Int) < ck) = true := by simp [hk5]
          clear HP hnx hwx
          go_wp2
          go_roundw
          case rel => exact ⟨i + 1, d, by omega, by go_num, hkp, hwx0, hvn, bn⟩
          case measure => simp [intOf]; omega
        · have e3 : decide ((5 : Int) < ck) = false := by simp; omega
          obtain ⟨hf1, hf2⟩ := hnx.out (by omega)
          replace hf1 := Rg.hid hf1
          replace hf2 := Rg.hid hf2
          obtain ⟨sa', sn', sc', oa', on', oc', cp', fs', dn', kV, hDv⟩ := hvar.out
          have v0 := kV.cell 0
          have v1 := kV.cell 1
          have v2 := kV.cell 2
          have v3 := kV.cell 3
          have v4 := kV.cell 4
          simp only [List.getElem?_cons_zero, List.getElem?_cons_succ] at v0 v1 v2 v3 v4
          have hVlt := kV.lt
          have HP2 := Rg.hid (HP.out (wr.alloc (.cells #[.int .i64 ck, .string cn, .string ct, .string cx, .int .i64 cm] 35)) _ (hDv.below (Rg.al1 _ _)))
          clear hnx HP hvar hDv kV
          go_upto_region 9 with (go_at_call 13; refine HP2.out.mono ?_; rintro e w6 ⟨sa6, sn6, sc6, oa6, on6, oc6, cp6, fs6, dn6, rfl, hD6, b6⟩)
          have hv6 := (hvn.out.below b6).below (Rg.al1 w6 (.cells #[.slice sa6 sn6 sc6, .slice oa6 on6 oc6, .int .i64 cp6, .int .i64 fs6, .bool dn6] 28))
          have hc6 := DVar.new hD6
          have hbw6 := Rg.chain (Rg.chain bn b6) (Rg.al1 w6 (.cells #[.slice sa6 sn6 sc6, .slice oa6 on6 oc6, .int .i64 cp6, .int .i64 fs6, .bool dn6] 28))
          have hk6 : Rg.Bk w6.heap.size [.slice sa6 sn6 sc6, .slice oa6 on6 oc6, .int .i64 cp6, .int .i64 fs6, .bool dn6] 28 (w6.alloc (.cells #[.slice sa6 sn6 sc6, .slice oa6 on6 oc6, .int .i64 cp6, .int .i64 fs6, .bool dn6] 28)) := Rg.Bk.new rfl
          have hDc : DAt (w6.alloc (.cells #[.slice sa6 sn6 sc6, .slice oa6 on6 oc6, .int .i64 cp6, .int .i64 fs6, .bool dn6] 28)) (.agg #[.slice sa6 sn6 sc6, .slice oa6 on6 oc6, .int .i64 cp6, .int .i64 fs6, .bool dn6]) r.1 := hD6.below (Rg.al1 _ _)
          have hVC : V ≠ w6.heap.size := by have := b6.size; simp at this; omega
          clear v0 v1 v2 v3 v4 b6 hvn HP2 hD6 c0 c1 c2 c3 c4
          generalize w6.alloc _ = W7 at *
          generalize w6.heap.size = C at *
          replace hc6 := Rg.hid hc6
          replace hDc := Rg.hid hDc
          replace hv6 := Rg.hid hv6
          have HU : Hid (∀ W v, DAt W v r.1 → Calls Try.prog 20 #[v] W fun e w' => VPost (.int .i64 (Dsk.used (Dsk.files r.1))) W e w') := fun W v hv => used_any v r.1 W hf1.out.ok hv
          have HS : Hid (r.1 = d → ∀ W v v2, DAt W v r.1 → DAt W v2 d → Calls Try.prog 19 #[v, v2] W fun e w' => VPost (.bool true) W e w') := fun hrd W v v2 h1 h2 => by
            have := sameD_any v v2 r.1 d W hf1.out.ok h1 h2
            rw [hrd, Dsk.sameD_refl] at this
            exact this
          obtain ⟨ov1, ov2⟩ := hf1.out.over
          generalize Dsk.used (Dsk.files r.1) = u at *
          have x0 := hk6.cell 0
          have x1 := hk6.cell 1
          have x2 := hk6.cell 2
          have x3 := hk6.cell 3
          have x4 := hk6.cell 4
          simp only [List.getElem?_cons_zero, List.getElem?_cons_succ] at x0 x1 x2 x3 x4
          by_cases hz : r.2 = 0
          · have dz : (r.2 != 0) = false := by simp [hz]
            have dz' : (r.2 == 0) = true := by simp [hz]
            clear HS hf2 hk6
            obtain ⟨hv8, oE⟩ := hv6.out.store hDc.out
            obtain ⟨q1, q2, q3, q4, q5, q6, q7, q8, q9, kV, _⟩ := hv6.out
            have v0 := kV.cell 0
            have v1 := kV.cell 1
            have v2 := kV.cell 2
            have v3 := kV.cell 3
            have v4 := kV.cell 4
            simp only [List.getElem?_cons_zero, List.getElem?_cons_succ] at v0 v1 v2 v3 v4
            have vf := kV.thaw
            have hbw8 := Rg.hid (hbw6.trans (oE.bel (show w.heap.size ≤ V by omega)))
            replace hv8 := Rg.hid hv8
            clear kV oE hbw6 hv6 hc6 hDc
            go_upto_region 12 with fail
            replace hv8 := hv8.out
            replace hbw8 := hbw8.out
            clear v0 v1 v2 v3 v4 vf x0 x1 x2 x3 x4
            generalize World.setCell _ _ _ = W8 at *
            obtain ⟨q1, q2, q3, q4, q5, q6, q7, q8, q9, kV, hDv⟩ := hv8
            have v0 := kV.cell 0
            have v1 := kV.cell 1
            have v2 := kV.cell 2
            have v3 := kV.cell 3
            have v4 := kV.cell 4
            simp only [List.getElem?_cons_zero, List.getElem?_cons_succ] at v0 v1 v2 v3 v4
            have hvl := kV.lt
            have kV' := Rg.hid kV
            have hDv' := Rg.hid hDv
            clear kV hDv
            go_wp2_with (go_at_call 20; refine (HU.out _ _ hDv'.out).mono ?_)
            rintro e w9 ⟨rfl, b9⟩
            have kV := kV'.out.below b9 hvl
            have hDv9 := Rg.hid (hDv'.out.below b9)
            have hbw9 := Rg.chain hbw8 b9
            clear v0 v1 v2 v3 v4 b9 kV' hDv' hbw8
            have v0 := kV.cell 0
            have v1 := kV.cell 1
            have v2 := kV.cell 2
            have v3 := kV.cell 3
            have v4 := kV.cell 4
            simp only [List.getElem?_cons_zero, List.getElem?_cons_succ] at v0 v1 v2 v3 v4
            have kV' := Rg.hid kV
            have hvl9 := kV.lt
            clear kV
            go_wp2_with (go_at_call 20; refine (HU.out _ _ hDv9.out).mono ?_)
            rintro e w10 ⟨rfl, b10⟩
            have hv10 : Hid (DVar V w10 r.1) := ⟨q1, q2, q3, q4, q5, q6, q7, q8, q9, kV'.out.below b10 hvl9, hDv9.out.below b10⟩
            have hbw10 := Rg.chain hbw9 b10
            clear v0 v1 v2 v3 v4 b10 kV' hDv9 hbw9
            go_wp2
            go_roundw
            case rel => exact ⟨i + 1, r.1, by omega, by go_num, hf1, hwx, hv10, hbw10⟩
            case measure => simp [intOf]; omega
          · have dz : (r.2 != 0) = true := by simp [hz]
            have dz' : (r.2 == 0) = false := by simp [hz]
            have hrd := hf2.out hz
            obtain ⟨q1, q2, q3, q4, q5, q6, q7, q8, q9, kV, hDv⟩ := hv6.out
            have v0 := kV.cell 0
            have v1 := kV.cell 1
            have v2 := kV.cell 2
            have v3 := kV.cell 3
            have v4 := kV.cell 4
            simp only [List.getElem?_cons_zero, List.getElem?_cons_succ] at v0 v1 v2 v3 v4
            have HS2 := Rg.hid (HS.out hrd W7 _ _ hDc.out hDv)
            clear HS hf2 hrd kV hDv
            go_upto_region 11 with (go_at_call 19; refine HS2.out.mono ?_; rintro e w8 ⟨rfl, b8⟩)
            have hk8 := hk6.below b8 hk6.lt
            replace hv6 := Rg.hid (hv6.out.below b8)
            replace hDc := Rg.hid (hDc.out.below b8)
            replace hc6 := Rg.hid (hc6.out.below b8)
            replace hbw6 := Rg.chain hbw6 b8
            clear v0 v1 v2 v3 v4 x0 x1 x2 x3 x4 b8 HS2 hk6
            have x0 := hk8.cell 0
            have x1 := hk8.cell 1
            have x2 := hk8.cell 2
            have x3 := hk8.cell 3
            have x4 := hk8.cell 4
            simp only [List.getElem?_cons_zero, List.getElem?_cons_succ] at x0 x1 x2 x3 x4
            clear hk8
            obtain ⟨hv8, oE⟩ := hv6.out.store hDc.out
            obtain ⟨q1, q2, q3, q4, q5, q6, q7, q8, q9, kV, _⟩ := hv6.out
            have v0 := kV.cell 0
            have v1 := kV.cell 1
            have v2 := kV.cell 2
            have v3 := kV.cell 3
            have v4 := kV.cell 4
            simp only [List.getElem?_cons_zero, List.getElem?_cons_succ] at v0 v1 v2 v3 v4
            have vf := kV.thaw
            have hbw8 := Rg.hid (hbw6.trans (oE.bel (show w.heap.size ≤ V by omega)))
            replace hv8 := Rg.hid hv8
            clear kV oE hbw6 hv6 hc6 hDc
            go_upto_region 12 with fail
            replace hv8 := hv8.out
            replace hbw8 := hbw8.out
            clear v0 v1 v2 v3 v4 vf x0 x1 x2 x3 x4
            generalize World.setCell _ _ _ = W8 at *
            obtain ⟨q1, q2, q3, q4, q5, q6, q7, q8, q9, kV, hDv⟩ := hv8
            have v0 := kV.cell 0
            have v1 := kV.cell 1
            have v2 := kV.cell 2
            have v3 := kV.cell 3
            have v4 := kV.cell 4
            simp only [List.getElem?_cons_zero, List.getElem?_cons_succ] at v0 v1 v2 v3 v4
            have hvl := kV.lt
            have kV' := Rg.hid kV
            have hDv' := Rg.hid hDv
            clear kV hDv
            go_wp2_with (go_at_call 20; refine (HU.out _ _ hDv'.out).mono ?_)
            rintro e w9 ⟨rfl, b9⟩
            have kV := kV'.out.below b9 hvl
            have hDv9 := Rg.hid (hDv'.out.below b9)
            have hbw9 := Rg.chain hbw8 b9
            clear v0 v1 v2 v3 v4 b9 kV' hDv' hbw8
            have v0 := kV.cell 0
            have v1 := kV.cell 1
            have v2 := kV.cell 2
            have v3 := kV.cell 3
            have v4 := kV.cell 4
            simp only [List.getElem?_cons_zero, List.getElem?_cons_succ] at v0 v1 v2 v3 v4
            have kV' := Rg.hid kV
            have hvl9 := kV.lt
            clear kV
            go_wp2_with (go_at_call 20; refine (HU.out _ _ hDv9.out).mono ?_)
            rintro e w10 ⟨rfl, b10⟩
            have hv10 : Hid (DVar V w10 r.1) := ⟨q1, q2, q3, q4, q5, q6, q7, q8, q9, kV'.out.below b10 hvl9, hDv9.out.below b10⟩
            have hbw10 := Rg.chain hbw9 b10
            clear v0 v1 v2 v3 v4 b10 kV' hDv9 hbw9
            go_wp2
            go_roundw
            case rel => exact ⟨i + 1, r.1, by omega, by go_num, hf1, hwx, hv10, hbw10⟩
            case measure => simp [intOf]; omega
      · obtain rfl : i = N := by omega
        go_wp2_with (go_at_call 9; refine (HA.out _ hbw).mono ?_)
        rintro e w9 ⟨rfl, b9⟩
        go_wp2
        go_ret
        exact ⟨rfl, b9⟩
end Go.Proofs.Ytlefodpbdjiapaa
