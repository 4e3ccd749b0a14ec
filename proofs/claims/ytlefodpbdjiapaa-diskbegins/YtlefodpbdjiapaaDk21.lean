/-
  Layer 6: a variable that holds a disk; DiskSafe.
-/
import Derived.Test.YtlefodpbdjiapaaDk20
namespace Go.Proofs.Ytlefodpbdjiapaa
open Go.RowKit

/-- a variable, block V, that holds a disk -/
def DVar (V : Nat) (W : World) (d : Dsk.Dk) : Prop := ∃ sa' sn' sc' oa' on' oc' cp' fs' dn', Rg.Bk V [.slice sa' sn' sc', .slice oa' on' oc', .int .i64 cp', .int .i64 fs', .bool dn'] 28 W ∧ DAt W (.agg #[.slice sa' sn' sc', .slice oa' on' oc', .int .i64 cp', .int .i64 fs', .bool dn']) d
theorem plainD {sa oa : Option Addr} {sn sc on oc : Nat} {cp fs : Int} {dn : Bool} : ∀ u ∈ ([.slice sa sn sc, .slice oa on oc, .int .i64 cp, .int .i64 fs, .bool dn] : List Value), ∀ s, u ≠ .string s := plain5 (fun _ h => by cases h) (fun _ h => by cases h) (fun _ h => by cases h) (fun _ h => by cases h) (fun _ h => by cases h)
theorem DVar.below {V : Nat} {W W' : World} {d : Dsk.Dk} (h : DVar V W d) (hb : Below W.heap.size W W') : DVar V W' d := by
  obtain ⟨sa', sn', sc', oa', on', oc', cp', fs', dn', k, hD⟩ := h
  exact ⟨sa', sn', sc', oa', on', oc', cp', fs', dn', k.below hb k.lt, hD.below hb⟩
theorem DVar.lt {V : Nat} {W : World} {d : Dsk.Dk} (h : DVar V W d) : V < W.heap.size := by
  obtain ⟨sa', sn', sc', oa', on', oc', cp', fs', dn', k, hD⟩ := h
  exact k.lt
theorem DVar.new {W : World} {sa oa : Option Addr} {sn sc on oc : Nat} {cp fs : Int} {dn : Bool} {d : Dsk.Dk} (h : DAt W (.agg #[.slice sa sn sc, .slice oa on oc, .int .i64 cp, .int .i64 fs, .bool dn]) d) : DVar W.heap.size (W.alloc (.cells #[.slice sa sn sc, .slice oa on oc, .int .i64 cp, .int .i64 fs, .bool dn] 28)) d :=
  ⟨sa, sn, sc, oa, on, oc, cp, fs, dn, Rg.Bk.new rfl, h.below (Rg.al1 _ _)⟩
/-- a store into the variable -/
theorem DVar.store {V : Nat} {W : World} {d d' : Dsk.Dk} {sa oa : Option Addr} {sn sc on oc : Nat} {cp fs : Int} {dn : Bool} (h : DVar V W d) (hD : DAt W (.agg #[.slice sa sn sc, .slice oa on oc, .int .i64 cp, .int .i64 fs, .bool dn]) d') :
    DVar V (((((W.setCell ⟨V, 0, none⟩ (.slice sa sn sc)).setCell ⟨V, 1, none⟩ (.slice oa on oc)).setCell ⟨V, 2, none⟩ (.int .i64 cp)).setCell ⟨V, 3, none⟩ (.int .i64 fs)).setCell ⟨V, 4, none⟩ (.bool dn)) d' ∧
    Rg.Only V W (((((W.setCell ⟨V, 0, none⟩ (.slice sa sn sc)).setCell ⟨V, 1, none⟩ (.slice oa on oc)).setCell ⟨V, 2, none⟩ (.int .i64 cp)).setCell ⟨V, 3, none⟩ (.int .i64 fs)).setCell ⟨V, 4, none⟩ (.bool dn)) := by
  obtain ⟨sa', sn', sc', oa', on', oc', cp', fs', dn', k, hD0⟩ := h
  obtain ⟨kE, oE⟩ := Rg.ret5 k rfl (.slice sa sn sc) (.slice oa on oc) (.int .i64 cp) (.int .i64 fs) (.bool dn)
  exact ⟨⟨sa, sn, sc, oa, on, oc, cp, fs, dn, kE, hD.only k plainD oE⟩, oE⟩
/-- a store into another one -/
theorem DVar.other {V V' : Nat} {W W' : World} {d d' : Dsk.Dk} (h : DVar V W d) (h' : DVar V' W d') (hne : V ≠ V') (ho : Rg.Only V' W W') : DVar V W' d := by
  obtain ⟨sa', sn', sc', oa', on', oc', cp', fs', dn', k, hD0⟩ := h
  obtain ⟨sa2, sn2, sc2, oa2, on2, oc2, cp2, fs2, dn2, k2, hD2⟩ := h'
  exact ⟨sa', sn', sc', oa', on', oc', cp', fs', dn', k.same (ho.block V hne), hD0.only k2 plainD ho⟩
/-- what a call's argument says of it -/
structure CFits (c : Dsk.Cl) : Prop where
  n : c.n.size ≤ maxLen
  t : c.t.size ≤ maxLen
  x : c.x.size ≤ maxLen
  m : c.m ≤ 9223372036854775807
theorem play_var (c : Dsk.Cl) (hc : CFits c) (d : Dsk.Dk) (hd : Dsk.Ok d) (hw : Dsk.Wt d + c.x.size + 16 ≤ 10000000000) (W : World) (v : Value) (h : DAt W v d) :
    Calls Try.prog 13 #[v, .agg #[.int .i64 c.k, .string c.n, .string c.t, .string c.x, .int .i64 c.m]] W fun e w' => DEx W (Dsk.play d c) e w' :=
  (play_any v d c W hd hw hc.n hc.t h).mono fun _ _ q => q.ex

namespace Dsk
def kept : ByteArray := ⟨#[107, 101, 112, 116]⟩
theorem kept_ne : ByteArray.empty ≠ kept := by decide
def dS0 (data : ByteArray) : Dk := ⟨[], [⟨1, kept, ByteArray.empty, data⟩], 20000, -1, false⟩
def dS (data : ByteArray) : Dk := ⟨[⟨kept, data⟩], [], 20000, -1, false⟩
theorem write_dS (data : ByteArray) (h : data.size ≤ 5000) : write (new 20000) kept data = (dS0 data, 0) := by
  have h1 : isName kept = true := by decide
  have h2 : (used (files (note (new 20000) ⟨1, kept, ByteArray.empty, data⟩)) : Int) = ((data.size + 16 + 0 : Nat) : Int) := rfl
  have h3 : (new 20000).cap = 20000 := rfl
  unfold write fill
  rw [if_neg (by decide), if_pos h1, h2, h3, if_neg (by omega)]
  rfl
theorem sync_dS (data : ByteArray) : sync (dS0 data) = (dS data, 0) := rfl
theorem dS0_ok (data : ByteArray) (h : data.size ≤ 5000) : Ok (dS0 data) := ⟨List.Pairwise.nil, by show 0 + (data.size + 16 + 0) ≤ 10000000000; omega, by show (-1 : Int) ≤ -1; omega, by show (-1 : Int) ≤ _; omega⟩
theorem dS_kept (data : ByteArray) (h : data.size ≤ 5000) : Kept kept data (dS data) :=
  ⟨⟨List.pairwise_singleton _ _, by show (data.size + 16 + 0) + 0 ≤ 10000000000; omega, by show (-1 : Int) ≤ -1; omega, by show (-1 : Int) ≤ _; omega⟩, by
    show get [⟨kept, data⟩] kept = some data
    rw [get, if_neg (by rw [lt_irrefl]; simp), if_pos rfl], fun o ho => by cases ho⟩
end Dsk
theorem kept_eq {s : ByteArray} : (s.toList == [107, 101, 112, 116]) = decide (s = Dsk.kept) := by
  rw [tl_eq]
  by_cases e : s = Dsk.kept
  · subst e; rfl
  · have : ¬ s.data.toList = [107, 101, 112, 116] := fun c => e (Dsk.ba_ext c)
    simp [e, this]

set_option maxHeartbeats 4000000 in
set_option maxRecDepth 100000 in
theorem safe_walk (data : ByteArray) (a : Option Addr) (ca : Nat) (l : List Dsk.Cl) (n : Int) (hn : l.length ≤ 1000000000000000) (hfit : ∀ c ∈ l, CFits c) (w : World) (hrow : CRow0 w a l) :
    Calls Try.prog 3 #[.string data, .slice a l.length ca, .int .i64 n] w fun e w' => VPost (.bool true) w e w' := by
  have HH : Hid (Calls Try.prog 8 #[.slice a l.length ca] w fun e w' => HeavyPost l w e w') := heavy_any a ca l w hn hrow
  have HA : Hid (∀ W, Below w.heap.size w W → Calls Try.prog 9 #[] W fun e w' => VPost (.bool true) w e w') := fun W hW => (awake_any W).mono fun e w' ⟨h1, h2⟩ => ⟨h1, Rg.chain hW h2⟩
  obtain ⟨N, hN⟩ : ∃ N, N = l.length := ⟨_, rfl⟩
  rw [← hN] at HH hn ⊢
  replace hN := Rg.hid hN
  replace hrow := Rg.hid hrow
  replace hfit := Rg.hid hfit
  go_enter Try.func3, Try.ntmps3
  go_wp2_with (go_at_call 8; refine HH.out.mono ?_)
  intro e w1 h1
  obtain ⟨B, rfl, hB, b1⟩ := h1
  cases B
  case true =>
    go_wp2_with (go_at_call 9; refine (HA.out _ b1).mono ?_)
    rintro e w2 ⟨rfl, b2⟩
    go_wp2
    go_ret
    exact ⟨rfl, b2⟩
  case false =>
    have hL := hB rfl
    by_cases hsz : (5000 : Int) < (data.size : Int)
    · have d1 : decide ((5000 : Int) < (data.size : Int)) = true := by simp; omega
      go_wp2_with (go_at_call 9; refine (HA.out _ b1).mono ?_)
      rintro e w2 ⟨rfl, b2⟩
      go_wp2
      go_ret
      exact ⟨rfl, b2⟩
    · have d1 : decide ((5000 : Int) < (data.size : Int)) = false := by simp; omega
      have hsz' : data.size ≤ 5000 := by omega
      have hlen : N ≤ 150 := by rw [hN.out]; exact hL.len
      have hdat := Rg.hid hL.data
      have hkd := Rg.hid (Dsk.dS_kept data hsz')
      have HNw : Hid (∀ W, Calls Try.prog 11 #[.int .i64 20000] W fun e w' => VPost (.agg #[.slice none 0 0, .slice none 0 0, .int .i64 20000, .int .i64 (-1), .bool false]) W e w') := fun W => (new_any 20000 W).mono fun e w' ⟨h1, h2⟩ => ⟨h1, h2⟩
      have HW : Hid (∀ W, Calls Try.prog 10 #[.agg #[.slice none 0 0, .slice none 0 0, .int .i64 20000, .int .i64 (-1), .bool false], .string ⟨#[107, 101, 112, 116]⟩, .string data] W fun e w' => DEx W (Dsk.dS0 data, 0) e w') := fun W => by
        have := write_any _ (Dsk.new 20000) Dsk.kept data W (Dsk.new_ok 20000) (by show 0 + 0 + data.size + 16 ≤ 10000000000; omega) (by decide) ⟨none, 0, none, 0, rfl, .inl ⟨rfl, rfl⟩, .inl ⟨rfl, rfl⟩, Nat.le_refl _, Nat.le_refl _⟩
        rw [Dsk.write_dS data hsz'] at this
        exact this.mono fun e w' q => q.ex
      have HS : Hid (∀ W v, DAt W v (Dsk.dS0 data) → Calls Try.prog 12 #[v] W fun e w' => DEx W (Dsk.dS data, 0) e w') := fun W v hv => by
        have := sync_any v (Dsk.dS0 data) W (Dsk.dS0_ok data hsz') hv
        rw [Dsk.sync_dS] at this
        exact this.mono fun e w' q => q.ex
      have hw0 : Dsk.Wt (Dsk.dS data) ≤ 5016 := by show (data.size + 16 + 0) + 0 ≤ 5016; omega
      generalize Dsk.dS0 data = d0 at *
      generalize Dsk.dS data = d1' at *
      clear hB hL HH
      go_wp2_with (go_at_call 11; refine (HNw.out _).mono ?_)
      rintro e w2 ⟨rfl, b2⟩
      go_wp2_with (go_at_call 10; refine (HW.out _).mono ?_)
      rintro e w3 ⟨sa', sn', sc', oa', on', oc', cp', fs', dn', rfl, hD3, b3⟩
      have hbw3 := Rg.chain (Rg.chain b1 b2) b3
      have hV := DVar.new hD3
      replace hD3 := Rg.hid (hD3.below (Rg.al1 w3 (.cells #[.slice sa' sn' sc', .slice oa' on' oc', .int .i64 cp', .int .i64 fs', .bool dn'] 28)))
      clear HNw HW b1 b2 b3
      go_wp2_with (go_at_call 12; refine (HS.out _ _ hD3.out).mono ?_)
      rintro e w4 ⟨sa4, sn4, sc4, oa4, on4, oc4, cp4, fs4, dn4, rfl, hD4, b4⟩
      have hbw4 := Rg.chain (Rg.chain hbw3 (Rg.al1 _ _)) b4
      have hV4 := hV.below b4
      have hVw : w.heap.size ≤ w3.heap.size := hbw3.size
      clear b4 hbw3 hD3 HS hV
      obtain ⟨hV5, oE⟩ := hV4.store hD4
      obtain ⟨q1, q2, q3, q4, q5, q6, q7, q8, q9, kV, _⟩ := hV4
      have v0 := kV.cell 0
      have v1 := kV.cell 1
      have v2 := kV.cell 2
      have v3 := kV.cell 3
      have v4 := kV.cell 4
      simp only [List.getElem?_cons_zero, List.getElem?_cons_succ] at v0 v1 v2 v3 v4
      have vf := kV.thaw
      have hbw5 := hbw4.trans (oE.bel hVw)
      replace hV5 := Rg.hid hV5
      clear kV oE hbw4
      generalize hV0 : w3.heap.size = V at *
      go_upto_region 5 with fail
      replace hbw5 := Rg.hid hbw5
      clear v0 v1 v2 v3 v4 vf
      generalize World.setCell _ _ _ = W5 at *
      replace hbw5 := hbw5.out
      clear hD4
      go_wp2
      have hw00 := Rg.hid (show Dsk.Wt d1' ≤ 5016 + 0 * 70016 by omega)
      go_loopw [41] (fun vi wr => ∃ (i : Nat) (d : Dsk.Dk), i ≤ N ∧ vi = .int .i64 i ∧ Hid (Dsk.Kept Dsk.kept data d) ∧ Hid (Dsk.Wt d ≤ 5016 + i * 70016) ∧ Hid (DVar V wr d) ∧ Below w.heap.size w wr) (fun vi _ => N - (intOf vi).toNat)
      case atStart => exact ⟨0, d1', Nat.zero_le _, rfl, hkd, hw00, hV5, hbw5⟩
      case round =>
        obtain ⟨i, d, hin, rfl, hkp, hwt, hvar, hbw⟩ := hrel
        by_cases hlt : i < N
        · have hil : i < l.length := by rw [← hN.out]; exact hlt
          obtain ⟨b, o, rfl, hb, hat⟩ : ∃ b o, a = some ⟨b, o, none⟩ ∧ b < w.heap.size ∧ Rg.At w b o (callE.flat l) := by
            rcases hrow.out with h | h
            · rw [h] at hil; simp at hil
            · exact h
          have at1 : Rg.At wr b (o + i * 5) (callE.enc l[i]) := (hat.elem hil).below hbw hb
          have hcf : CFits l[i] := hfit.out _ (List.getElem_mem hil)
          have hcd : l[i].x.size ≤ 70000 := hdat.out _ (List.getElem_mem hil)
          generalize l[i] = c at *
          have hw1 := Rg.hid (show Dsk.Wt d + c.x.size + 16 ≤ 10000000000 by have := hwt.out; omega)
          have HP := Rg.hid (fun W v h => play_var c hcf d hkp.out.ok hw1.out W v h)
          have hnx : Hid (c.n ≠ Dsk.kept → c.t ≠ Dsk.kept → Dsk.Kept Dsk.kept data (Dsk.play d c).1) := fun h1 h2 => hkp.out.play c hw1.out hcf.m h1 h2 Dsk.kept_ne
          have hwx := Rg.hid (show Dsk.Wt (Dsk.play d c).1 ≤ 5016 + (i + 1) * 70016 by have := (Dsk.play_ok hkp.out.ok c hw1.out hcf.m).2; have := hwt.out; omega)
          have hwx0 : Hid (Dsk.Wt d ≤ 5016 + (i + 1) * 70016) := Nat.le_trans hwt.out (Nat.add_le_add_left (Nat.mul_le_mul_right _ (Nat.le_succ i)) _)
          generalize Dsk.play d c = r at *
          obtain ⟨ck, cn, ct, cx, cm⟩ := c
          obtain ⟨c0, c1, c2, c3, c4⟩ := call_at at1
          dsimp only at HP hnx
          have hz0 : (0 : Int) ≤ (i : Int) := by omega
          have hz1 : (i : Int) < (N : Int) := by omega
          have bn := hbw.alloc hbw.size (.cells #[.int .i64 ck, .string cn, .string ct, .string cx, .int .i64 cm] 35)
          have hvn := Rg.hid (hvar.out.below (Rg.al1 wr (.cells #[.int .i64 ck, .string cn, .string ct, .string cx, .int .i64 cm] 35)))
          clear at1 hat hil hrow hcf hcd hw1 hwt
          cases e1 : (cn.toList == [107, 101, 112, 116])
          case true =>
            clear HP hnx hwx
            go_wp2
            go_roundw
            case rel => exact ⟨i + 1, d, by omega, by go_num, hkp, hwx0, hvn, bn⟩
            case measure => simp [intOf]; omega
          case false =>
            cases e2 : (ct.toList == [107, 101, 112, 116])
            case true =>
              clear HP hnx hwx
              go_wp2
              go_roundw
              case rel => exact ⟨i + 1, d, by omega, by go_num, hkp, hwx0, hvn, bn⟩
              case measure => simp [intOf]; omega
            case false =>
              by_cases hk7 : (7 : Int) < ck
              · have e3 : decide ((7 : Int) < ck) = true := by simp [hk7]
                clear HP hnx hwx
                go_wp2
                go_roundw
                case rel => exact ⟨i + 1, d, by omega, by go_num, hkp, hwx0, hvn, bn⟩
                case measure => simp [intOf]; omega
              · have e3 : decide ((7 : Int) < ck) = false := by simp; omega
                have hkn := Rg.hid (hnx.out (by have := e1; rw [kept_eq] at this; simpa using this) (by have := e2; rw [kept_eq] at this; simpa using this))
                have hvo := hvar.out
                obtain ⟨sa', sn', sc', oa', on', oc', cp', fs', dn', kV, hDv⟩ := hvo
                have v0 := kV.cell 0
                have v1 := kV.cell 1
                have v2 := kV.cell 2
                have v3 := kV.cell 3
                have v4 := kV.cell 4
                simp only [List.getElem?_cons_zero, List.getElem?_cons_succ] at v0 v1 v2 v3 v4
                have hVlt := kV.lt
                have HP2 := Rg.hid (HP.out (wr.alloc (.cells #[.int .i64 ck, .string cn, .string ct, .string cx, .int .i64 cm] 35)) _ (hDv.below (Rg.al1 _ _)))
                clear hnx HP hvar hDv kV
                go_wp2_with (go_at_call 13; refine HP2.out.mono ?_)
                rintro e w6 ⟨sa6, sn6, sc6, oa6, on6, oc6, cp6, fs6, dn6, rfl, hD6, b6⟩
                have hv6 := hvn.out.below b6
                have hbw6 := Rg.chain bn b6
                obtain ⟨hv7, oE⟩ := hv6.store hD6
                obtain ⟨q1, q2, q3, q4, q5, q6, q7, q8, q9, kV, _⟩ := hv6
                have hbw7 := hbw6.trans (oE.bel (show w.heap.size ≤ V by omega))
                replace hv7 := Rg.hid hv7
                replace hbw7 := Rg.hid hbw7
                clear v0 v1 v2 v3 v4 oE hbw6 b6 hvn HP2 hD6
                have v0 := kV.cell 0
                have v1 := kV.cell 1
                have v2 := kV.cell 2
                have v3 := kV.cell 3
                have v4 := kV.cell 4
                simp only [List.getElem?_cons_zero, List.getElem?_cons_succ] at v0 v1 v2 v3 v4
                have vf := kV.thaw
                clear kV
                go_wp2
                go_roundw
                case rel => exact ⟨i + 1, r.1, by omega, by go_num, hkn, hwx, hv7, hbw7.out⟩
                case measure => simp [intOf]; omega
        · obtain rfl : i = N := by omega
          have HC : Hid (∀ W v, DAt W v d → Calls Try.prog 16 #[v, .int .i64 n] W fun e w' => NEx W (Dsk.crash d n) e w') := fun W v hv => (crash_any v d n W hkp.out.ok hv).mono fun e w' q => q.ex
          have HT : Hid (∀ W v, DAt W v (Dsk.crash d n) → Calls Try.prog 15 #[v] W fun e w' => NEx W (Dsk.start (Dsk.crash d n)) e w') := fun W v hv => (start_any v (Dsk.crash d n) W hv).mono fun e w' q => q.ex
          have hokc : Dsk.Ok (Dsk.start (Dsk.crash d n)) := by
            have := Dsk.settle_ok hkp.out.ok (Dsk.keep n d.ops.length)
            exact ⟨this.srt, this.wt, by show (-1 : Int) ≤ -1; omega, by show (-1 : Int) ≤ _; omega⟩
          have HR : Hid (∀ W v, DAt W v (Dsk.start (Dsk.crash d n)) → Calls Try.prog 14 #[v, .string ⟨#[107, 101, 112, 116]⟩] W fun e w' => VPost (.tuple #[.string data, .int .i64 0]) W e w') := fun W v hv => by
            have := read_any v (Dsk.start (Dsk.crash d n)) Dsk.kept W hokc hv
            rw [hkp.out.reads n] at this
            exact this
          obtain ⟨sa', sn', sc', oa', on', oc', cp', fs', dn', kV, hDv⟩ := hvar.out
          have v0 := kV.cell 0
          have v1 := kV.cell 1
          have v2 := kV.cell 2
          have v3 := kV.cell 3
          have v4 := kV.cell 4
          simp only [List.getElem?_cons_zero, List.getElem?_cons_succ] at v0 v1 v2 v3 v4
          replace hDv := Rg.hid hDv
          have dd : (data.toList == data.toList) = true := by simp
          clear hkp hwt hvar kV hokc hrow hfit hdat
          generalize Dsk.start (Dsk.crash d n) = d3 at *
          generalize Dsk.crash d n = d2 at *
          go_wp2_with (go_at_call 16; refine (HC.out _ _ hDv.out).mono ?_)
          rintro e w6 ⟨sa6, sn6, sc6, oa6, on6, oc6, cp6, fs6, dn6, rfl, hD6, b6⟩
          replace hD6 := Rg.hid hD6
          go_wp2_with (go_at_call 15; refine (HT.out _ _ hD6.out).mono ?_)
          rintro e w7 ⟨sa7, sn7, sc7, oa7, on7, oc7, cp7, fs7, dn7, rfl, hD7, b7⟩
          replace hD7 := Rg.hid hD7
          go_wp2_with (go_at_call 14; refine (HR.out _ _ hD7.out).mono ?_)
          rintro e w8 ⟨rfl, b8⟩
          have hbw8 := Rg.chain (Rg.chain (Rg.chain hbw b6) b7) b8
          clear HC HT HR hD6 hD7 hDv v0 v1 v2 v3 v4 b6 b7 b8
          go_wp2_with (go_at_call 9; refine (HA.out _ hbw8).mono ?_)
          rintro e w9 ⟨rfl, b9⟩
          go_wp2
          go_ret
          exact ⟨rfl, b9⟩
end Go.Proofs.Ytlefodpbdjiapaa
