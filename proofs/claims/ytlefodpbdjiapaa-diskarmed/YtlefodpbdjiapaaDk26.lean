/-
  Layer 6: DiskArmed.
-/
import Derived.Test.YtlefodpbdjiapaaDk25
namespace Go.Proofs.Ytlefodpbdjiapaa
open Go.RowKit

theorem DVar.drew {V : Nat} {W : World} {d : Dsk.Dk} (h : DVar V W d) : DVar V W.drew d := by
  obtain ⟨sa', sn', sc', oa', on', oc', cp', fs', dn', k, hD⟩ := h
  obtain ⟨sa, sc, oa, oc, h1, h2, h3, h4, h5⟩ := hD
  exact ⟨sa', sn', sc', oa', on', oc', cp', fs', dn', k.drew, sa, sc, oa, oc, h1, h2.drew, h3.drew, h4, h5⟩
theorem k_bd (n : Int) : 0 ≤ wrap64 ((IntKind.u64.wrap n).tmod 40) ∧ wrap64 ((IntKind.u64.wrap n).tmod 40) < 40 := by
  have h : 0 ≤ IntKind.u64.wrap n := by
    rw [IntKind.wrap_u64]; omega
  have e : (IntKind.u64.wrap n).tmod 40 = IntKind.u64.wrap n % 40 := Int.tmod_eq_emod_of_nonneg h
  rw [e]
  generalize IntKind.u64.wrap n = m at *
  have : wrap64 (m % 40) = m % 40 := by unfold wrap64; omega
  rw [this]; omega

set_option maxHeartbeats 4000000 in
set_option maxRecDepth 100000 in
theorem armed_walk (a : Option Addr) (ca : Nat) (l : List Dsk.Cl) (n : Int) (hn : l.length ≤ 1000000000000000) (hfit : ∀ c ∈ l, CFits c) (w : World) (hrow : CRow0 w a l) :
    Calls Try.prog 6 #[.slice a l.length ca, .int .i64 n] w fun e w' => VPost (.bool true) w e w' := by
  have HH : Hid (Calls Try.prog 8 #[.slice a l.length ca] w fun e w' => HeavyPost l w e w') := heavy_any a ca l w hn hrow
  have HA : Hid (∀ W, Below w.heap.size w W → Calls Try.prog 9 #[] W fun e w' => VPost (.bool true) w e w') := fun W hW => (awake_any W).mono fun e w' ⟨h1, h2⟩ => ⟨h1, Rg.chain hW h2⟩
  obtain ⟨N, hN⟩ : ∃ N, N = l.length := ⟨_, rfl⟩
  rw [← hN] at HH hn ⊢
  replace hN := Rg.hid hN
  replace hrow := Rg.hid hrow
  replace hfit := Rg.hid hfit
  go_enter Try.func6, Try.ntmps6
  go_wp2_with (go_at_call 8; refine HH.out.mono ?_)
  intro e w1 h1
  obtain ⟨B, rfl, hB, b1⟩ := h1
  cases B
  case true =>
    go_wp2_with (go_at_call 9; refine (HA.out _ b1).mono ?_)
    rintro e w2 ⟨rfl, b2⟩
    go_wp2
    go_ret
    exact ⟨rfl, b2⟩
  case false =>
    have hL := hB rfl
    have hlen : N ≤ 150 := by rw [hN.out]; exact hL.len
    have hdat := Rg.hid hL.data
    clear hB hL HH
    go_upto_region 4 with fail
    obtain ⟨k0, k1⟩ := k_bd n
    generalize wrap64 ((IntKind.u64.wrap n).tmod 40) = kk at *
    obtain ⟨K, rfl⟩ : ∃ K : Nat, kk = (K : Int) := ⟨kk.toNat, by omega⟩
    have HNw : Hid (∀ W, Calls Try.prog 11 #[.int .i64 30000] W fun e w' => VPost (.agg #[.slice none 0 0, .slice none 0 0, .int .i64 30000, .int .i64 (-1), .bool false]) W e w') := fun W => (new_any 30000 W).mono fun e w' ⟨h1, h2⟩ => ⟨h1, h2⟩
    have hD0 : Hid (∀ W, DAt W (.agg #[.slice none 0 0, .slice none 0 0, .int .i64 30000, .int .i64 (-1), .bool false]) (Dsk.new 30000)) := fun W => ⟨none, 0, none, 0, rfl, .inl ⟨rfl, rfl⟩, .inl ⟨rfl, rfl⟩, Nat.le_refl _, Nat.le_refl _⟩
    have HAr : Hid (∀ W, Calls Try.prog 21 #[.agg #[.slice none 0 0, .slice none 0 0, .int .i64 30000, .int .i64 (-1), .bool false], .int .i64 K] W fun e w' => NEx W (Dsk.refuse (Dsk.new 30000) K) e w') := fun W => by
      have := arm_any _ (Dsk.new 30000) K W (hD0.out W)
      rw [Dsk.arm_new 30000 K k0] at this
      exact this.mono fun e w' q => q.ex
    have hfu := Rg.hid (Dsk.Ever.new 30000)
    have hw00 : Hid (Dsk.Wt (Dsk.new 30000) ≤ 0 * 70016) := Nat.le_refl _
    generalize Dsk.new 30000 = d0 at *
    go_wp2_with (go_at_call 11; refine (HNw.out _).mono ?_)
    rintro e w2 ⟨rfl, b2⟩
    go_wp2_with (go_at_call 21; refine (HAr.out _).mono ?_)
    rintro e w3 ⟨sa', sn', sc', oa', on', oc', cp', fs', dn', rfl, hD3, b3⟩
    go_wp2_with (go_at_call 11; refine (HNw.out _).mono ?_)
    rintro e w4 ⟨rfl, b4⟩
    have hVA0 := Rg.hid ((DVar.new (hD3.below b4)).below (Rg.al1 (w4.alloc (.cells #[.slice sa' sn' sc', .slice oa' on' oc', .int .i64 cp', .int .i64 fs', .bool dn'] 28)) (.cells #[.slice none 0 0, .slice none 0 0, .int .i64 30000, .int .i64 (-1), .bool false] 28)))
    have hVB0 := Rg.hid (DVar.new (hD0.out (w4.alloc (.cells #[.slice sa' sn' sc', .slice oa' on' oc', .int .i64 cp', .int .i64 fs', .bool dn'] 28))))
    rw [show (w4.alloc (.cells #[.slice sa' sn' sc', .slice oa' on' oc', .int .i64 cp', .int .i64 fs', .bool dn'] 28)).heap.size = w4.heap.size + 1 by simp] at hVB0
    have hbw4 := Rg.chain (Rg.chain (Rg.chain (Rg.chain b1 b2) b3) b4) (Rg.al2 w4 (.cells #[.slice sa' sn' sc', .slice oa' on' oc', .int .i64 cp', .int .i64 fs', .bool dn'] 28) (.cells #[.slice none 0 0, .slice none 0 0, .int .i64 30000, .int .i64 (-1), .bool false] 28))
    have hVw : w.heap.size ≤ w4.heap.size := (Rg.chain (Rg.chain (Rg.chain b1 b2) b3) b4).size
    clear HNw HAr hD0 hD3 b1 b2 b3 b4 k0
    go_wp2
    generalize World.alloc _ _ = W4 at *
    obtain ⟨VB, hVB⟩ : ∃ VB, VB = w4.heap.size + 1 := ⟨_, rfl⟩
    rw [← hVB] at hVB0 ⊢
    generalize w4.heap.size = VA at *
    have hVAB : VA ≠ VB := by omega
    have hVwB : w.heap.size ≤ VB := by omega
    clear hVB
    have hr00 : Hid (Dsk.refuse d0 K = Dsk.refuse d0 (((K - 0 : Nat) : Int))) := rfl
    rw [hr00.out] at hVA0
    go_loopw [7, 29] (fun vq vi wr => ∃ (i q : Nat) (d : Dsk.Dk), i ≤ N ∧ q ≤ K ∧ vi = .int .i64 i ∧ vq = .int .i64 q ∧ Hid (Dsk.Ever d) ∧ Hid (Dsk.Wt d ≤ i * 70016) ∧ Hid (DVar VA wr (Dsk.refuse d ((K - q : Nat) : Int))) ∧ Hid (DVar VB wr d) ∧ Below w.heap.size w wr) (fun _ vi _ => N - (intOf vi).toNat)
    case atStart => exact ⟨0, 0, d0, Nat.zero_le _, Nat.zero_le _, rfl, rfl, hfu, hw00, hVA0, hVB0, hbw4⟩
    case round =>
      obtain ⟨i, q, d, hin, hq, rfl, rfl, hkp, hwt, hva, hvb, hbw⟩ := hrel
      clear hVA0 hVB0 hbw4 hfu hw00
      by_cases hlt : i < N
      · have hil : i < l.length := by rw [← hN.out]; exact hlt
        obtain ⟨b, o, rfl, hb, hat⟩ : ∃ b o, a = some ⟨b, o, none⟩ ∧ b < w.heap.size ∧ Rg.At w b o (callE.flat l) := by
          rcases hrow.out with h | h
          · rw [h] at hil; simp at hil
          · exact h
        have at1 : Rg.At wr b (o + i * 5) (callE.enc l[i]) := (hat.elem hil).below hbw hb
        have hcf : CFits l[i] := hfit.out _ (List.getElem_mem hil)
        have hcd : l[i].x.size ≤ 70000 := hdat.out _ (List.getElem_mem hil)
        generalize l[i] = c at *
        have hw1 := Rg.hid (show Dsk.Wt d + c.x.size + 16 ≤ 10000000000 by have := hwt.out; omega)
        have hokA : Dsk.Ok (Dsk.refuse d ((K - q : Nat) : Int)) := Dsk.refuse_ok hkp.out.ok _ (by omega) (by omega)
        have HPa := Rg.hid (fun W v h => play_var c hcf (Dsk.refuse d ((K - q : Nat) : Int)) hokA hw1.out W v h)
        have HPb := Rg.hid (fun W v h => play_var c hcf d hkp.out.ok hw1.out W v h)
        have hap : Hid (1 ≤ c.k → c.k ≤ 5 → ((Dsk.play d c).2 ≠ 0 ∧ (Dsk.play d c).1 = d ∧ Dsk.play (Dsk.refuse d ((K - q : Nat) : Int)) c = (Dsk.refuse d ((K - q : Nat) : Int), (Dsk.play d c).2)) ∨ ((Dsk.play d c).2 = 0 ∧ ((K - q : Nat) : Int) = 0 ∧ Dsk.play (Dsk.refuse d ((K - q : Nat) : Int)) c = ({ Dsk.refuse d ((K - q : Nat) : Int) with down := true }, 9)) ∨ ((Dsk.play d c).2 = 0 ∧ 0 < ((K - q : Nat) : Int) ∧ Dsk.play (Dsk.refuse d ((K - q : Nat) : Int)) c = (Dsk.refuse (Dsk.play d c).1 (((K - q : Nat) : Int) - 1), 0))) := fun h1 h2 => Dsk.armed_play hkp.out _ (by omega) c h1 h2
        have hev : Hid (c.k ≤ 5 → Dsk.Ever (Dsk.play d c).1) := fun h1 => hkp.out.play c hw1.out hcf.m h1
        have hokr : Hid (Dsk.Ok (Dsk.play (Dsk.refuse d ((K - q : Nat) : Int)) c).1) := (Dsk.play_ok hokA c hw1.out hcf.m).1
        have hwx := Rg.hid (show Dsk.Wt (Dsk.play d c).1 ≤ (i + 1) * 70016 by have := (Dsk.play_ok hkp.out.ok c hw1.out hcf.m).2; have := hwt.out; omega)
        have hwx0 : Hid (Dsk.Wt d ≤ (i + 1) * 70016) := Nat.le_trans hwt.out (Nat.mul_le_mul_right _ (Nat.le_succ i))
        generalize Dsk.play (Dsk.refuse d ((K - q : Nat) : Int)) c = r1 at *
        generalize Dsk.play d c = r2 at *
        obtain ⟨ck, cn, ct, cx, cm⟩ := c
        obtain ⟨c0, c1, c2, c3, c4⟩ := call_at at1
        dsimp only at HPa HPb hap hev
        have hz0 : (0 : Int) ≤ (i : Int) := by omega
        have hz1 : (i : Int) < (N : Int) := by omega
        have bn := hbw.alloc hbw.size (.cells #[.int .i64 ck, .string cn, .string ct, .string cx, .int .i64 cm] 35)
        have hvan := Rg.hid (hva.out.below (Rg.al1 wr (.cells #[.int .i64 ck, .string cn, .string ct, .string cx, .int .i64 cm] 35)))
        have hvbn := Rg.hid (hvb.out.below (Rg.al1 wr (.cells #[.int .i64 ck, .string cn, .string ct, .string cx, .int .i64 cm] 35)))
        clear at1 hat hil hrow hcf hcd hw1 hwt hokA
        by_cases hk1 : ck < 1
        · have e3 : decide (ck < (1 : Int)) = true := by simp [hk1]
          clear HPa HPb hap hev hwx hokr
          go_wp2
          go_roundw
          case rel => exact ⟨i + 1, q, d, by omega, hq, by go_num, rfl, hkp, hwx0, hvan, hvbn, bn⟩
          case measure => simp [intOf]; omega
        · have e3 : decide (ck < (1 : Int)) = false := by simp; omega
          by_cases hk5 : (5 : Int) < ck
          · have e4 : decide ((5 : Int) < ck) = true := by simp [hk5]
            clear HPa HPb hap hev hwx hokr
            go_wp2
            go_roundw
            case rel => exact ⟨i + 1, q, d, by omega, hq, by go_num, rfl, hkp, hwx0, hvan, hvbn, bn⟩
            case measure => simp [intOf]; omega
          · have e4 : decide ((5 : Int) < ck) = false := by simp; omega
            have hap' := Rg.hid (hap.out (by omega) (by omega))
            have hev' := Rg.hid (hev.out (by omega))
            obtain ⟨saA, snA, scA, oaA, onA, ocA, cpA, fsA, dnA, kA, hDA⟩ := hva.out
            have qd := hDA.look.2.2.2.2.1
            have qd' : dnA = false := by rw [qd]; exact hkp.out.down
            subst qd'
            have v0 := kA.cell 0
            have v1 := kA.cell 1
            have v2 := kA.cell 2
            have v3 := kA.cell 3
            have v4 := kA.cell 4
            simp only [List.getElem?_cons_zero, List.getElem?_cons_succ] at v0 v1 v2 v3 v4
            have HP2 := Rg.hid (HPa.out (wr.alloc (.cells #[.int .i64 ck, .string cn, .string ct, .string cx, .int .i64 cm] 35)) _ (hDA.below (Rg.al1 _ _)))
            have hVAlt := kA.lt
            have kA' := Rg.hid kA
            clear hap hev HPa hDA kA qd hva hvb
            go_upto_region 11 with (go_at_call 13; refine HP2.out.mono ?_; rintro e w6 ⟨saC, snC, scC, oaC, onC, ocC, cpC, fsC, dnC, rfl, hDC, b6⟩)
            have hva := Rg.hid ((hvan.out.below b6).below (Rg.al1 w6 (.cells #[.slice saC snC scC, .slice oaC onC ocC, .int .i64 cpC, .int .i64 fsC, .bool dnC] 28)))
            have hvb := Rg.hid ((hvbn.out.below b6).below (Rg.al1 w6 (.cells #[.slice saC snC scC, .slice oaC onC ocC, .int .i64 cpC, .int .i64 fsC, .bool dnC] 28)))
            have hkO : Rg.Bk wr.heap.size [.int .i64 ck, .string cn, .string ct, .string cx, .int .i64 cm] 35 (w6.alloc (.cells #[.slice saC snC scC, .slice oaC onC ocC, .int .i64 cpC, .int .i64 fsC, .bool dnC] 28)) := (Rg.Bk.below (Rg.Bk.new rfl) b6 (by simp)).old _
            have hkA := ((kA'.out.old (.cells #[.int .i64 ck, .string cn, .string ct, .string cx, .int .i64 cm] 35)).below b6 (by simp; omega)).old (.cells #[.slice saC snC scC, .slice oaC onC ocC, .int .i64 cpC, .int .i64 fsC, .bool dnC] 28)
            have hkC : Rg.Bk w6.heap.size [.slice saC snC scC, .slice oaC onC ocC, .int .i64 cpC, .int .i64 fsC, .bool dnC] 28 (w6.alloc (.cells #[.slice saC snC scC, .slice oaC onC ocC, .int .i64 cpC, .int .i64 fsC, .bool dnC] 28)) := Rg.Bk.new rfl
            have hbw7 := Rg.chain (Rg.chain bn b6) (Rg.al1 w6 (.cells #[.slice saC snC scC, .slice oaC onC ocC, .int .i64 cpC, .int .i64 fsC, .bool dnC] 28))
            have hneC : VA ≠ w6.heap.size ∧ VB ≠ w6.heap.size := by have h1 := hvan.out.lt; have h2 := hvbn.out.lt; have h3 := b6.size; omega
            replace hDC := Rg.hid (hDC.below (Rg.al1 w6 (.cells #[.slice saC snC scC, .slice oaC onC ocC, .int .i64 cpC, .int .i64 fsC, .bool dnC] 28)))
            clear v0 v1 v2 v3 v4 b6 hvan hvbn HP2 c0 c1 c2 c3 c4 kA' bn hVAlt
            generalize w6.alloc _ = W7 at *
            generalize w6.heap.size = C at *
            generalize wr.heap.size = OB at *
            have a4 := hkA.cell 4
            simp only [List.getElem?_cons_zero, List.getElem?_cons_succ] at a4
            by_cases hqk : q = K
            · subst hqk
              have hK0 : ((q - q : Nat) : Int) = 0 := by simp
              rw [hK0] at hap' hva
              have dq : ((q : Int) == (q : Int)) = true := by simp
              obtain ⟨saB, snB, scB, oaB, onB, ocB, cpB, fsB, dnB, kB, hDB⟩ := hvb.out
              have v0 := kB.cell 0
              have v1 := kB.cell 1
              have v2 := kB.cell 2
              have v3 := kB.cell 3
              have v4 := kB.cell 4
              simp only [List.getElem?_cons_zero, List.getElem?_cons_succ] at v0 v1 v2 v3 v4
              have o0 := hkO.cell 0
              have o1 := hkO.cell 1
              have o2 := hkO.cell 2
              have o3 := hkO.cell 3
              have o4 := hkO.cell 4
              simp only [List.getElem?_cons_zero, List.getElem?_cons_succ] at o0 o1 o2 o3 o4
              have HP2 := Rg.hid (HPb.out W7 _ hDB)
              clear kB hDB
              go_upto_region 13 with (go_at_call 13; refine HP2.out.mono ?_; rintro e w8 ⟨saX, snX, scX, oaX, onX, ocX, cpX, fsX, dnX, rfl, hDX, b8⟩)
              have hva8 := Rg.hid ((hva.out.below b8).below (Rg.al1 w8 (.cells #[.slice saX snX scX, .slice oaX onX ocX, .int .i64 cpX, .int .i64 fsX, .bool dnX] 28)))
              have hvb8 := Rg.hid ((hvb.out.below b8).below (Rg.al1 w8 (.cells #[.slice saX snX scX, .slice oaX onX ocX, .int .i64 cpX, .int .i64 fsX, .bool dnX] 28)))
              have hkC8 := (hkC.below b8 hkC.lt).old (.cells #[.slice saX snX scX, .slice oaX onX ocX, .int .i64 cpX, .int .i64 fsX, .bool dnX] 28)
              have hDC8 := Rg.hid ((hDC.out.below b8).below (Rg.al1 w8 (.cells #[.slice saX snX scX, .slice oaX onX ocX, .int .i64 cpX, .int .i64 fsX, .bool dnX] 28)))
              have hDX8 := Rg.hid (hDX.below (Rg.al1 w8 (.cells #[.slice saX snX scX, .slice oaX onX ocX, .int .i64 cpX, .int .i64 fsX, .bool dnX] 28)))
              have hkX8 : Rg.Bk w8.heap.size [.slice saX snX scX, .slice oaX onX ocX, .int .i64 cpX, .int .i64 fsX, .bool dnX] 28 (w8.alloc (.cells #[.slice saX snX scX, .slice oaX onX ocX, .int .i64 cpX, .int .i64 fsX, .bool dnX] 28)) := Rg.Bk.new rfl
              have hbw8 := Rg.chain (Rg.chain hbw7 b8) (Rg.al1 w8 (.cells #[.slice saX snX scX, .slice oaX onX ocX, .int .i64 cpX, .int .i64 fsX, .bool dnX] 28))
              have hneX : VA ≠ w8.heap.size ∧ VB ≠ w8.heap.size ∧ C ≠ w8.heap.size := by have h1 := hva.out.lt; have h2 := hvb.out.lt; have h3 := hkC.lt; have h4 := b8.size; omega
              clear v0 v1 v2 v3 v4 o0 o1 o2 o3 o4 b8 HP2 hDX hva hvb hkC hDC hbw7 hkO
              generalize w8.alloc _ = W8 at *
              generalize w8.heap.size = X at *
              by_cases hz : r2.2 = 0
              · have dz : (r2.2 == 0) = true := by simp [hz]
                have hr1 : r1 = ({ Dsk.refuse d 0 with down := true }, 9) := by
                  rcases hap'.out with ⟨q1, _⟩ | ⟨_, _, q1⟩ | ⟨_, q1, _⟩
                  · exact absurd hz q1
                  · exact q1
                  · omega
                have hfl : Dsk.files (Dsk.start r1.1) = Dsk.files d := by rw [hr1]; exact Dsk.start_down d 0 hkp.out.down
                have hf0 : Dsk.files r1.1 = [] := by rw [hr1]; rfl
                have hr2 : r1.2 = 9 := by rw [hr1]
                have hdn : dnC = true := by rw [hDC8.out.look.2.2.2.2.1, hr1]
                have hoks : Dsk.Ok (Dsk.start r1.1) := ⟨hokr.out.srt, hokr.out.wt, hokr.out.fuse, hokr.out.fuse'⟩
                have hlk : (Dsk.files d).length ≤ 1000000000 := by have h1 := hkp.out.ok.files; have h2 := Dsk.len_used (Dsk.files d); omega
                subst hdn
                obtain ⟨r11, r12⟩ := r1
                dsimp only at hfl hf0 hr2 hoks hDC8 hokr
                subst hr2
                obtain ⟨saB, snB, scB, oaB, onB, ocB, cpB, fsB, dnB, kB, hDB⟩ := hvb8.out
                have hfacts : Hid (∀ W, Below W8.heap.size W8 W → W.cell? ⟨C, 0, none⟩ = some (.slice saC snC scC) ∧ W.cell? ⟨C, 1, none⟩ = some (.slice oaC onC ocC) ∧ W.cell? ⟨C, 2, none⟩ = some (.int .i64 cpC) ∧ W.cell? ⟨C, 3, none⟩ = some (.int .i64 fsC) ∧ W.cell? ⟨C, 4, none⟩ = some (.bool true) ∧ W.cell? ⟨VB, 0, none⟩ = some (.slice saB snB scB) ∧ W.cell? ⟨VB, 1, none⟩ = some (.slice oaB onB ocB) ∧ W.cell? ⟨VB, 2, none⟩ = some (.int .i64 cpB) ∧ W.cell? ⟨VB, 3, none⟩ = some (.int .i64 fsB) ∧ W.cell? ⟨VB, 4, none⟩ = some (.bool dnB)) := fun W hW => by
                  have k1' := hkC8.below hW hkC8.lt
                  have k2' := kB.below hW kB.lt
                  exact ⟨k1'.cell 0, k1'.cell 1, k1'.cell 2, k1'.cell 3, k1'.cell 4, k2'.cell 0, k2'.cell 1, k2'.cell 2, k2'.cell 3, k2'.cell 4⟩
                have HT : Hid (∀ W, Below W8.heap.size W8 W → Calls Try.prog 15 #[.agg #[.slice saC snC scC, .slice oaC onC ocC, .int .i64 cpC, .int .i64 fsC, .bool true]] W fun e w' => ∃ saS snS scS oaS onS ocS cpS fsS dnS, e = .returned (.agg #[.slice saS snS scS, .slice oaS onS ocS, .int .i64 cpS, .int .i64 fsS, .bool dnS]) ∧ DAt w' (.agg #[.slice saS snS scS, .slice oaS onS ocS, .int .i64 cpS, .int .i64 fsS, .bool dnS]) (Dsk.start r11) ∧ Below W.heap.size W w' ∧ Below W8.heap.size W8 w' ∧ w'.cell? ⟨C, 0, none⟩ = some (.slice saC snC scC) ∧ w'.cell? ⟨C, 1, none⟩ = some (.slice oaC onC ocC) ∧ w'.cell? ⟨C, 2, none⟩ = some (.int .i64 cpC) ∧ w'.cell? ⟨C, 3, none⟩ = some (.int .i64 fsC) ∧ w'.cell? ⟨C, 4, none⟩ = some (.bool true) ∧ w'.cell? ⟨VB, 0, none⟩ = some (.slice saB snB scB) ∧ w'.cell? ⟨VB, 1, none⟩ = some (.slice oaB onB ocB) ∧ w'.cell? ⟨VB, 2, none⟩ = some (.int .i64 cpB) ∧ w'.cell? ⟨VB, 3, none⟩ = some (.int .i64 fsB) ∧ w'.cell? ⟨VB, 4, none⟩ = some (.bool dnB)) := fun W hW => (start_any _ r11 W (hDC8.out.below hW)).mono fun e w' qq => by
                  obtain ⟨saS, snS, scS, oaS, onS, ocS, cpS, fsS, dnS, q1, q2, q3⟩ := qq.ex
                  exact ⟨saS, snS, scS, oaS, onS, ocS, cpS, fsS, dnS, q1, q2, q3, Rg.chain hW q3, hfacts.out _ (Rg.chain hW q3)⟩
                have HF : Hid (∀ W v, Below W8.heap.size W8 W → (DAt W v (Dsk.start r11) ∨ DAt W v d) → Calls Try.prog 17 #[v] W fun e w' => ∃ a c, e = .returned (.slice a (Dsk.files d).length c) ∧ fileE.Row w' a (Dsk.files d) ∧ Below W.heap.size W w' ∧ Below W8.heap.size W8 w' ∧ w'.cell? ⟨C, 0, none⟩ = some (.slice saC snC scC) ∧ w'.cell? ⟨C, 1, none⟩ = some (.slice oaC onC ocC) ∧ w'.cell? ⟨C, 2, none⟩ = some (.int .i64 cpC) ∧ w'.cell? ⟨C, 3, none⟩ = some (.int .i64 fsC) ∧ w'.cell? ⟨C, 4, none⟩ = some (.bool true) ∧ w'.cell? ⟨VB, 0, none⟩ = some (.slice saB snB scB) ∧ w'.cell? ⟨VB, 1, none⟩ = some (.slice oaB onB ocB) ∧ w'.cell? ⟨VB, 2, none⟩ = some (.int .i64 cpB) ∧ w'.cell? ⟨VB, 3, none⟩ = some (.int .i64 fsB) ∧ w'.cell? ⟨VB, 4, none⟩ = some (.bool dnB)) := fun W v hW hv => by
                  rcases hv with hv | hv
                  · refine (files_any v _ W hoks hv).mono fun e w' ⟨v, h1, h2, h3⟩ => ?_
                    obtain ⟨a, c, h4, h5⟩ := h2.shape
                    rw [hfl] at h4 h5
                    exact ⟨a, c, by rw [h1, h4], h5, h3, Rg.chain hW h3, hfacts.out _ (Rg.chain hW h3)⟩
                  · refine (files_any v _ W hkp.out.ok hv).mono fun e w' ⟨v, h1, h2, h3⟩ => ?_
                    obtain ⟨a, c, h4, h5⟩ := h2.shape
                    exact ⟨a, c, by rw [h1, h4], h5, h3, Rg.chain hW h3, hfacts.out _ (Rg.chain hW h3)⟩
                have HSm : Hid (∀ W a c a' c', Below W8.heap.size W8 W → fileE.Row W a (Dsk.files d) → fileE.Row W a' (Dsk.files d) → Calls Try.prog 18 #[.slice a (Dsk.files d).length c, .slice a' (Dsk.files d).length c'] W fun e w' => e = .returned (.bool true) ∧ Below W8.heap.size W8 w' ∧ w'.cell? ⟨C, 0, none⟩ = some (.slice saC snC scC) ∧ w'.cell? ⟨C, 1, none⟩ = some (.slice oaC onC ocC) ∧ w'.cell? ⟨C, 2, none⟩ = some (.int .i64 cpC) ∧ w'.cell? ⟨C, 3, none⟩ = some (.int .i64 fsC) ∧ w'.cell? ⟨C, 4, none⟩ = some (.bool true) ∧ w'.cell? ⟨VB, 0, none⟩ = some (.slice saB snB scB) ∧ w'.cell? ⟨VB, 1, none⟩ = some (.slice oaB onB ocB) ∧ w'.cell? ⟨VB, 2, none⟩ = some (.int .i64 cpB) ∧ w'.cell? ⟨VB, 3, none⟩ = some (.int .i64 fsB) ∧ w'.cell? ⟨VB, 4, none⟩ = some (.bool dnB)) := fun W a c a' c' hW h1 h2 => (same_any a c a' c' _ _ W hlk h1 h2).mono fun e w' ⟨h1, h2⟩ => ⟨by rw [h1]; simp, Rg.chain hW h2, hfacts.out _ (Rg.chain hW h2)⟩
                have HL : Hid (∀ W, Below W8.heap.size W8 W → Calls Try.prog 22 #[.agg #[.slice saC snC scC, .slice oaC onC ocC, .int .i64 cpC, .int .i64 fsC, .bool true]] W fun e w' => ∃ a c, e = .returned (.slice a 0 c) ∧ Below W8.heap.size W8 w' ∧ w'.cell? ⟨C, 0, none⟩ = some (.slice saC snC scC) ∧ w'.cell? ⟨C, 1, none⟩ = some (.slice oaC onC ocC) ∧ w'.cell? ⟨C, 2, none⟩ = some (.int .i64 cpC) ∧ w'.cell? ⟨C, 3, none⟩ = some (.int .i64 fsC) ∧ w'.cell? ⟨C, 4, none⟩ = some (.bool true) ∧ w'.cell? ⟨VB, 0, none⟩ = some (.slice saB snB scB) ∧ w'.cell? ⟨VB, 1, none⟩ = some (.slice oaB onB ocB) ∧ w'.cell? ⟨VB, 2, none⟩ = some (.int .i64 cpB) ∧ w'.cell? ⟨VB, 3, none⟩ = some (.int .i64 fsB) ∧ w'.cell? ⟨VB, 4, none⟩ = some (.bool dnB)) := fun W hW => (list_any _ r11 W hokr.out (hDC8.out.below hW)).mono fun e w' ⟨a, c, h1, _, _, h4⟩ => ⟨a, c, by rw [h1, hf0]; rfl, Rg.chain hW h4, hfacts.out _ (Rg.chain hW h4)⟩
                have HA2 : Hid (∀ W, Below W8.heap.size W8 W → Calls Try.prog 9 #[] W fun e w' => e = .returned (.bool true) ∧ Below w.heap.size w w' ∧ w'.cell? ⟨C, 0, none⟩ = some (.slice saC snC scC) ∧ w'.cell? ⟨C, 1, none⟩ = some (.slice oaC onC ocC) ∧ w'.cell? ⟨C, 2, none⟩ = some (.int .i64 cpC) ∧ w'.cell? ⟨C, 3, none⟩ = some (.int .i64 fsC) ∧ w'.cell? ⟨C, 4, none⟩ = some (.bool true) ∧ w'.cell? ⟨VB, 0, none⟩ = some (.slice saB snB scB) ∧ w'.cell? ⟨VB, 1, none⟩ = some (.slice oaB onB ocB) ∧ w'.cell? ⟨VB, 2, none⟩ = some (.int .i64 cpB) ∧ w'.cell? ⟨VB, 3, none⟩ = some (.int .i64 fsB) ∧ w'.cell? ⟨VB, 4, none⟩ = some (.bool dnB)) := fun W hW => (awake_any W).mono fun e w' ⟨h1, h2⟩ => ⟨h1, Rg.chain (Rg.chain hbw8 hW) h2, hfacts.out _ (Rg.chain hW h2)⟩
                have v0 := kB.cell 0
                have v1 := kB.cell 1
                have v2 := kB.cell 2
                have v3 := kB.cell 3
                have v4 := kB.cell 4
                simp only [List.getElem?_cons_zero, List.getElem?_cons_succ] at v0 v1 v2 v3 v4
                have x0 := hkC8.cell 0
                have x1 := hkC8.cell 1
                have x2 := hkC8.cell 2
                have x3 := hkC8.cell 3
                have x4 := hkC8.cell 4
                simp only [List.getElem?_cons_zero, List.getElem?_cons_succ] at x0 x1 x2 x3 x4
                have hDBp : Hid (∀ W, Below W8.heap.size W8 W → DAt W (.agg #[.slice saB snB scB, .slice oaB onB ocB, .int .i64 cpB, .int .i64 fsB, .bool dnB]) d) := fun W hW => hDB.below hW
                clear hap' hev' hokr hwx hwx0 hva8 hvb8 hkC8 hDC8 hDX8 hkX8 kB hDB hfacts hoks hfl hf0 hlk hr1 HPb hkp
                generalize (Dsk.files d).length = LN at *
                generalize Dsk.files d = lk at *
                generalize Dsk.start r11 = ds at *
                go_wp2
                go_region_held3 (fun w' => w'.cell? ⟨C, 0, none⟩ = some (.slice saC snC scC) ∧ w'.cell? ⟨C, 1, none⟩ = some (.slice oaC onC ocC) ∧ w'.cell? ⟨C, 2, none⟩ = some (.int .i64 cpC) ∧ w'.cell? ⟨C, 3, none⟩ = some (.int .i64 fsC) ∧ w'.cell? ⟨C, 4, none⟩ = some (.bool true) ∧ w'.cell? ⟨VB, 0, none⟩ = some (.slice saB snB scB) ∧ w'.cell? ⟨VB, 1, none⟩ = some (.slice oaB onB ocB) ∧ w'.cell? ⟨VB, 2, none⟩ = some (.int .i64 cpB) ∧ w'.cell? ⟨VB, 3, none⟩ = some (.int .i64 fsB) ∧ w'.cell? ⟨VB, 4, none⟩ = some (.bool dnB)) (go_keep) (first
                  | (go_at_call 15; refine (HT.out _ ?_).mono ?_; (first | exact Below.refl _ _ | exact (Below.refl _ _).drew | exact bW); rintro e wS ⟨saS, snS, scS, oaS, onS, ocS, cpS, fsS, dnS, rfl, hDS, bS, bW, y0, y1, y2, y3, y4, y5, y6, y7, y8, y9⟩)
                  | (go_at_call 17; refine (HF.out _ _ ?_ ?_).mono ?_; (first | exact bW | exact Below.refl _ _ | exact (Below.refl _ _).drew); (first | exact .inl hDS | exact .inl (hDS.below bF) | exact .inr (hDBp.out _ bW) | exact .inr (hDBp.out _ (Below.refl _ _)) | exact .inr (hDBp.out _ (Below.refl _ _).drew)); rintro e wF ⟨fa, fc, rfl, hrF, bF, bW, z0, z1, z2, z3, z4, z5, z6, z7, z8, z9⟩)
                  | (go_at_call 18; refine (HSm.out _ _ _ _ _ bW ?_ ?_).mono ?_; (first | assumption | (refine Rg.El.Row.below ?_ bF; assumption) | (refine Rg.El.Row.below (Rg.El.Row.below ?_ bS) bF; assumption)); (first | assumption | (refine Rg.El.Row.below ?_ bF; assumption) | (refine Rg.El.Row.below (Rg.El.Row.below ?_ bS) bF; assumption)); rintro e wE ⟨rfl, bW2, t0, t1, t2, t3, t4, t5, t6, t7, t8, t9⟩)
                  | (go_at_call 22; refine (HL.out _ bW2).mono ?_; rintro e wL ⟨la, lc, rfl, bW3, s0, s1, s2, s3, s4, s5, s6, s7, s8, s9⟩)
                  | (go_at_call 9; refine (HA2.out _ bW3).mono ?_; rintro e wA ⟨rfl, b10, p0, p1, p2, p3, p4, p5, p6, p7, p8, p9⟩))
                go_wp2
                go_ret
                exact ⟨rfl, b10⟩
              · have dz : (r2.2 == 0) = false := by simp [hz]
                have hr1 : r2.1 = d ∧ r1.1 = Dsk.refuse d 0 := by
                  rcases hap'.out with ⟨_, q1, q2⟩ | ⟨q1, _⟩ | ⟨q1, _⟩
                  · exact ⟨q1, by rw [q2]⟩
                  · exact absurd q1 hz
                  · exact absurd q1 hz
                obtain ⟨hvb9, oB⟩ := hvb8.out.store hDX8.out
                obtain ⟨saB, snB, scB, oaB, onB, ocB, cpB, fsB, dnB, kB, hDB⟩ := hvb8.out
                have v0 := kB.cell 0
                have v1 := kB.cell 1
                have v2 := kB.cell 2
                have v3 := kB.cell 3
                have v4 := kB.cell 4
                simp only [List.getElem?_cons_zero, List.getElem?_cons_succ] at v0 v1 v2 v3 v4
                have y0 := hkX8.cell 0
                have y1 := hkX8.cell 1
                have y2 := hkX8.cell 2
                have y3 := hkX8.cell 3
                have y4 := hkX8.cell 4
                simp only [List.getElem?_cons_zero, List.getElem?_cons_succ] at y0 y1 y2 y3 y4
                have vf := kB.thaw
                have hva9 := Rg.hid (hva8.out.other hvb8.out hVAB oB)
                have hkC9 := hkC8.same (oB.block C (Ne.symm hneC.2))
                have hDC9 := Rg.hid (hDC8.out.only kB plainD oB)
                have hbw9 := Rg.hid (hbw8.trans (oB.bel hVwB))
                replace hvb9 := Rg.hid hvb9
                have hkC9' := Rg.hid hkC9
                clear oB kB hDB hkC8 hkX8 hDX8 hDC8 hva8 hvb8 hbw8 hap' hokr HPb hkC9
                go_upto_region 16 with fail
                replace hvb9 := hvb9.out
                replace hva9 := hva9.out
                replace hDC9 := hDC9.out
                replace hbw9 := hbw9.out
                have hkC9 := hkC9'.out
                clear v0 v1 v2 v3 v4 y0 y1 y2 y3 y4 vf hkC9'
                generalize World.setCell _ _ _ = W9 at *
                obtain ⟨hva10, oA⟩ := hva9.store hDC9
                have hvb10 := Rg.hid (hvb9.other hva9 (Ne.symm hVAB) oA)
                have hbw10 := Rg.hid (hbw9.trans (oA.bel hVw))
                obtain ⟨saA2, snA2, scA2, oaA2, onA2, ocA2, cpA2, fsA2, dnA2, kA, hDA⟩ := hva9
                have v0 := kA.cell 0
                have v1 := kA.cell 1
                have v2 := kA.cell 2
                have v3 := kA.cell 3
                have v4 := kA.cell 4
                simp only [List.getElem?_cons_zero, List.getElem?_cons_succ] at v0 v1 v2 v3 v4
                have x0 := hkC9.cell 0
                have x1 := hkC9.cell 1
                have x2 := hkC9.cell 2
                have x3 := hkC9.cell 3
                have x4 := hkC9.cell 4
                simp only [List.getElem?_cons_zero, List.getElem?_cons_succ] at x0 x1 x2 x3 x4
                have vf := kA.thaw
                replace hva10 := Rg.hid hva10
                rw [hr1.2] at hva10
                rw [hr1.1] at hvb10
                clear oA kA hDA hkC9 hDC9 hvb9 hbw9 hev' hwx hr1
                go_wp2
                go_roundw
                case rel => exact ⟨i + 1, q, d, by omega, Nat.le_refl _, by go_num, rfl, hkp, hwx0, by rw [hK0]; exact hva10, hvb10, hbw10.out⟩
                case measure => simp [intOf]; omega
            · have dq : ((q : Int) == (K : Int)) = false := by simp; omega
              have dq' : (q == K) = false := by simp [hqk]
              obtain ⟨saB, snB, scB, oaB, onB, ocB, cpB, fsB, dnB, kB, hDB⟩ := hvb.out
              have v0 := kB.cell 0
              have v1 := kB.cell 1
              have v2 := kB.cell 2
              have v3 := kB.cell 3
              have v4 := kB.cell 4
              simp only [List.getElem?_cons_zero, List.getElem?_cons_succ] at v0 v1 v2 v3 v4
              have o0 := hkO.cell 0
              have o1 := hkO.cell 1
              have o2 := hkO.cell 2
              have o3 := hkO.cell 3
              have o4 := hkO.cell 4
              simp only [List.getElem?_cons_zero, List.getElem?_cons_succ] at o0 o1 o2 o3 o4
              have HP2 := Rg.hid (HPb.out W7 _ hDB)
              clear kB hDB
              go_upto_region 18 with (go_at_call 13; refine HP2.out.mono ?_; rintro e w8 ⟨saX, snX, scX, oaX, onX, ocX, cpX, fsX, dnX, rfl, hDX, b8⟩)
              have hva8 := Rg.hid ((hva.out.below b8).below (Rg.al1 w8 (.cells #[.slice saX snX scX, .slice oaX onX ocX, .int .i64 cpX, .int .i64 fsX, .bool dnX] 28)))
              have hvb8 := Rg.hid ((hvb.out.below b8).below (Rg.al1 w8 (.cells #[.slice saX snX scX, .slice oaX onX ocX, .int .i64 cpX, .int .i64 fsX, .bool dnX] 28)))
              have hkC8 := (hkC.below b8 hkC.lt).old (.cells #[.slice saX snX scX, .slice oaX onX ocX, .int .i64 cpX, .int .i64 fsX, .bool dnX] 28)
              have hDC8 := Rg.hid ((hDC.out.below b8).below (Rg.al1 w8 (.cells #[.slice saX snX scX, .slice oaX onX ocX, .int .i64 cpX, .int .i64 fsX, .bool dnX] 28)))
              have hDX8 := Rg.hid (hDX.below (Rg.al1 w8 (.cells #[.slice saX snX scX, .slice oaX onX ocX, .int .i64 cpX, .int .i64 fsX, .bool dnX] 28)))
              have hkX8 : Rg.Bk w8.heap.size [.slice saX snX scX, .slice oaX onX ocX, .int .i64 cpX, .int .i64 fsX, .bool dnX] 28 (w8.alloc (.cells #[.slice saX snX scX, .slice oaX onX ocX, .int .i64 cpX, .int .i64 fsX, .bool dnX] 28)) := Rg.Bk.new rfl
              have hbw8 := Rg.chain (Rg.chain hbw7 b8) (Rg.al1 w8 (.cells #[.slice saX snX scX, .slice oaX onX ocX, .int .i64 cpX, .int .i64 fsX, .bool dnX] 28))
              have hneX : VA ≠ w8.heap.size ∧ VB ≠ w8.heap.size ∧ C ≠ w8.heap.size := by have h1 := hva.out.lt; have h2 := hvb.out.lt; have h3 := hkC.lt; have h4 := b8.size; omega
              clear v0 v1 v2 v3 v4 o0 o1 o2 o3 o4 b8 HP2 hDX hva hvb hkC hDC hbw7 hkO
              generalize w8.alloc _ = W8 at *
              generalize w8.heap.size = X at *
              by_cases hz : r2.2 = 0
              · skip
                have hrA : Hid (r1 = (Dsk.refuse r2.1 (((K - q : Nat) : Int) - 1), 0)) := by
                  rcases hap'.out with ⟨q1, _⟩ | ⟨_, q1, _⟩ | ⟨_, _, q1⟩
                  · exact absurd hz q1
                  · omega
                  · exact q1
                have hfeq : r1.2 = r2.2 := by rw [hrA.out, hz]
                have hfl : Dsk.files r1.1 = Dsk.files r2.1 := by rw [hrA.out]; rfl
                have hqn : Hid (Dsk.refuse r2.1 ((K - (q + 1) : Nat) : Int) = r1.1) := by show _ = _; rw [hrA.out]; congr 1; omega
                have dz : (r2.2 == 0) = true := by simp [hz]
                clear hrA
                have hlk : (Dsk.files r2.1).length ≤ 1000000000 := by have h1 := hev'.out.ok.files; have h2 := Dsk.len_used (Dsk.files r2.1); omega
                have hfacts : Hid (∀ W, Below W8.heap.size W8 W → W.cell? ⟨C, 0, none⟩ = some (.slice saC snC scC) ∧ W.cell? ⟨C, 1, none⟩ = some (.slice oaC onC ocC) ∧ W.cell? ⟨C, 2, none⟩ = some (.int .i64 cpC) ∧ W.cell? ⟨C, 3, none⟩ = some (.int .i64 fsC) ∧ W.cell? ⟨C, 4, none⟩ = some (.bool dnC) ∧ W.cell? ⟨X, 0, none⟩ = some (.slice saX snX scX) ∧ W.cell? ⟨X, 1, none⟩ = some (.slice oaX onX ocX) ∧ W.cell? ⟨X, 2, none⟩ = some (.int .i64 cpX) ∧ W.cell? ⟨X, 3, none⟩ = some (.int .i64 fsX) ∧ W.cell? ⟨X, 4, none⟩ = some (.bool dnX)) := fun W hW => by
                  have k1' := hkC8.below hW hkC8.lt
                  have k2' := hkX8.below hW hkX8.lt
                  exact ⟨k1'.cell 0, k1'.cell 1, k1'.cell 2, k1'.cell 3, k1'.cell 4, k2'.cell 0, k2'.cell 1, k2'.cell 2, k2'.cell 3, k2'.cell 4⟩
                have HF : Hid (∀ W v, Below W8.heap.size W8 W → (DAt W v r1.1 ∨ DAt W v r2.1) → Calls Try.prog 17 #[v] W fun e w' => ∃ a c, e = .returned (.slice a (Dsk.files r2.1).length c) ∧ fileE.Row w' a (Dsk.files r2.1) ∧ Below W.heap.size W w' ∧ Below W8.heap.size W8 w' ∧ w'.cell? ⟨C, 0, none⟩ = some (.slice saC snC scC) ∧ w'.cell? ⟨C, 1, none⟩ = some (.slice oaC onC ocC) ∧ w'.cell? ⟨C, 2, none⟩ = some (.int .i64 cpC) ∧ w'.cell? ⟨C, 3, none⟩ = some (.int .i64 fsC) ∧ w'.cell? ⟨C, 4, none⟩ = some (.bool dnC) ∧ w'.cell? ⟨X, 0, none⟩ = some (.slice saX snX scX) ∧ w'.cell? ⟨X, 1, none⟩ = some (.slice oaX onX ocX) ∧ w'.cell? ⟨X, 2, none⟩ = some (.int .i64 cpX) ∧ w'.cell? ⟨X, 3, none⟩ = some (.int .i64 fsX) ∧ w'.cell? ⟨X, 4, none⟩ = some (.bool dnX)) := fun W v hW hv => by
                  rcases hv with hv | hv
                  · refine (files_any v _ W hokr.out hv).mono fun e w' ⟨v, h1, h2, h3⟩ => ?_
                    obtain ⟨a, c, h4, h5⟩ := h2.shape
                    rw [hfl] at h4 h5
                    exact ⟨a, c, by rw [h1, h4], h5, h3, Rg.chain hW h3, hfacts.out _ (Rg.chain hW h3)⟩
                  · refine (files_any v _ W hev'.out.ok hv).mono fun e w' ⟨v, h1, h2, h3⟩ => ?_
                    obtain ⟨a, c, h4, h5⟩ := h2.shape
                    exact ⟨a, c, by rw [h1, h4], h5, h3, Rg.chain hW h3, hfacts.out _ (Rg.chain hW h3)⟩
                have HSm : Hid (∀ W a c a' c', Below W8.heap.size W8 W → fileE.Row W a (Dsk.files r2.1) → fileE.Row W a' (Dsk.files r2.1) → Calls Try.prog 18 #[.slice a (Dsk.files r2.1).length c, .slice a' (Dsk.files r2.1).length c'] W fun e w' => e = .returned (.bool true) ∧ Below W8.heap.size W8 w' ∧ w'.cell? ⟨C, 0, none⟩ = some (.slice saC snC scC) ∧ w'.cell? ⟨C, 1, none⟩ = some (.slice oaC onC ocC) ∧ w'.cell? ⟨C, 2, none⟩ = some (.int .i64 cpC) ∧ w'.cell? ⟨C, 3, none⟩ = some (.int .i64 fsC) ∧ w'.cell? ⟨C, 4, none⟩ = some (.bool dnC) ∧ w'.cell? ⟨X, 0, none⟩ = some (.slice saX snX scX) ∧ w'.cell? ⟨X, 1, none⟩ = some (.slice oaX onX ocX) ∧ w'.cell? ⟨X, 2, none⟩ = some (.int .i64 cpX) ∧ w'.cell? ⟨X, 3, none⟩ = some (.int .i64 fsX) ∧ w'.cell? ⟨X, 4, none⟩ = some (.bool dnX)) := fun W a c a' c' hW h1 h2 => (same_any a c a' c' _ _ W hlk h1 h2).mono fun e w' ⟨h1, h2⟩ => ⟨by rw [h1]; simp, Rg.chain hW h2, hfacts.out _ (Rg.chain hW h2)⟩
                have hDCp : Hid (∀ W, Below W8.heap.size W8 W → DAt W (.agg #[.slice saC snC scC, .slice oaC onC ocC, .int .i64 cpC, .int .i64 fsC, .bool dnC]) r1.1) := fun W hW => hDC8.out.below hW
                have hDXp : Hid (∀ W, Below W8.heap.size W8 W → DAt W (.agg #[.slice saX snX scX, .slice oaX onX ocX, .int .i64 cpX, .int .i64 fsX, .bool dnX]) r2.1) := fun W hW => hDX8.out.below hW
                have hend : Hid (∀ W, Below W8.heap.size W8 W → Rg.Bk C [.slice saC snC scC, .slice oaC onC ocC, .int .i64 cpC, .int .i64 fsC, .bool dnC] 28 W ∧ Rg.Bk X [.slice saX snX scX, .slice oaX onX ocX, .int .i64 cpX, .int .i64 fsX, .bool dnX] 28 W ∧ DVar VA W (Dsk.refuse d ((K - q : Nat) : Int)) ∧ DVar VB W d ∧ Below w.heap.size w W) := fun W hW => ⟨hkC8.below hW hkC8.lt, hkX8.below hW hkX8.lt, hva8.out.below hW, hvb8.out.below hW, Rg.chain hbw8 hW⟩
                have y0 := hkX8.cell 0
                have y1 := hkX8.cell 1
                have y2 := hkX8.cell 2
                have y3 := hkX8.cell 3
                have y4 := hkX8.cell 4
                simp only [List.getElem?_cons_zero, List.getElem?_cons_succ] at y0 y1 y2 y3 y4
                have x0 := hkC8.cell 0
                have x1 := hkC8.cell 1
                have x2 := hkC8.cell 2
                have x3 := hkC8.cell 3
                have x4 := hkC8.cell 4
                simp only [List.getElem?_cons_zero, List.getElem?_cons_succ] at x0 x1 x2 x3 x4
                obtain ⟨r11, r12⟩ := r1
                dsimp only at hfeq hfl hDCp HF hokr hqn
                subst hfeq
                clear hap' hokr hva8 hvb8 hkC8 hDC8 hDX8 hkX8 hfacts hfl hlk HPb hbw8
                generalize (Dsk.files r2.1).length = LN at *
                generalize Dsk.files r2.1 = lk at *
                go_wp2
                go_region_held3 (fun w' => w'.cell? ⟨C, 0, none⟩ = some (.slice saC snC scC) ∧ w'.cell? ⟨C, 1, none⟩ = some (.slice oaC onC ocC) ∧ w'.cell? ⟨C, 2, none⟩ = some (.int .i64 cpC) ∧ w'.cell? ⟨C, 3, none⟩ = some (.int .i64 fsC) ∧ w'.cell? ⟨C, 4, none⟩ = some (.bool dnC) ∧ w'.cell? ⟨X, 0, none⟩ = some (.slice saX snX scX) ∧ w'.cell? ⟨X, 1, none⟩ = some (.slice oaX onX ocX) ∧ w'.cell? ⟨X, 2, none⟩ = some (.int .i64 cpX) ∧ w'.cell? ⟨X, 3, none⟩ = some (.int .i64 fsX) ∧ w'.cell? ⟨X, 4, none⟩ = some (.bool dnX)) (go_keep) (first
                  | (go_at_call 17; refine (HF.out _ _ ?_ ?_).mono ?_; (first | exact bW | exact Below.refl _ _ | exact (Below.refl _ _).drew); (first | exact .inl (hDCp.out _ bW) | exact .inl (hDCp.out _ (Below.refl _ _)) | exact .inl (hDCp.out _ (Below.refl _ _).drew) | exact .inr (hDXp.out _ bW) | exact .inr (hDXp.out _ (Below.refl _ _)) | exact .inr (hDXp.out _ (Below.refl _ _).drew)); rintro e wF ⟨fa, fc, rfl, hrF, bF, bW, z0, z1, z2, z3, z4, z5, z6, z7, z8, z9⟩)
                  | (go_at_call 18; refine (HSm.out _ _ _ _ _ bW ?_ ?_).mono ?_; (first | assumption | (refine Rg.El.Row.below ?_ bF; assumption)); (first | assumption | (refine Rg.El.Row.below ?_ bF; assumption)); rintro e wE ⟨rfl, bW2, t0, t1, t2, t3, t4, t5, t6, t7, t8, t9⟩))
                all_goals
                  obtain ⟨kC, kX, hvA, hvB, hbE⟩ := hend.out wE bW2
                  have hDCE := hDCp.out wE bW2
                  have hDXE := hDXp.out wE bW2
                  obtain ⟨hvA1, oA⟩ := hvA.store hDCE
                  have hvB1 := hvB.other hvA (Ne.symm hVAB) oA
                  obtain ⟨saP, snP, scP, oaP, onP, ocP, cpP, fsP, dnP, kA, hDA⟩ := hvA
                  have hDX1 := hDXE.only kA plainD oA
                  obtain ⟨hvB2, oB⟩ := hvB1.store hDX1
                  have hvA2 := hvA1.other hvB1 hVAB oB
                  have hbE2 := (hbE.trans (oA.bel hVw)).trans (oB.bel hVwB)
                  obtain ⟨saQ, snQ, scQ, oaQ, onQ, ocQ, cpQ, fsQ, dnQ, kB, hDB⟩ := hvB
                  have v0 := kA.cell 0
                  have v1 := kA.cell 1
                  have v2 := kA.cell 2
                  have v3 := kA.cell 3
                  have v4 := kA.cell 4
                  simp only [List.getElem?_cons_zero, List.getElem?_cons_succ] at v0 v1 v2 v3 v4
                  have u0 := kB.cell 0
                  have u1 := kB.cell 1
                  have u2 := kB.cell 2
                  have u3 := kB.cell 3
                  have u4 := kB.cell 4
                  simp only [List.getElem?_cons_zero, List.getElem?_cons_succ] at u0 u1 u2 u3 u4
                  have vf := kA.thaw
                  have uf := kB.thaw
                  have hvaF := Rg.hid hvA2
                  have hvbF := Rg.hid hvB2
                  have hbwF := Rg.hid hbE2
                  clear oA oB hvA1 hvB1 hDX1 hDCE hDXE kA kB hDA hDB hvA2 hvB2 hbE2 hbE kC kX hend hDCp hDXp HF HSm z0 z1 z2 z3 z4 z5 z6 z7 z8 z9 x0 x1 x2 x3 x4 y0 y1 y2 y3 y4 hrF bF bW bW2
                  go_wp2
                  go_big_region
                  go_wp2
                  go_roundw
                  case rel => exact ⟨i + 1, q + 1, r2.1, by omega, by omega, by go_num, by go_num, hev', hwx, by rw [hqn.out]; exact hvaF.out.drew, hvbF.out.drew, hbwF.out.drew⟩
                  case measure => simp [intOf]; omega
              · skip
                have hrA0 : r2.1 = d ∧ r1 = (Dsk.refuse d ((K - q : Nat) : Int), r2.2) := by
                  rcases hap'.out with ⟨_, q1, q2⟩ | ⟨q1, _⟩ | ⟨q1, _⟩
                  · exact ⟨q1, q2⟩
                  · exact absurd q1 hz
                  · exact absurd q1 hz
                have hrA : Hid (r1.1 = Dsk.refuse d ((K - q : Nat) : Int)) := by show _ = _; rw [hrA0.2]
                have hrB : Hid (r2.1 = d) := hrA0.1
                have hfeq : r1.2 = r2.2 := by rw [hrA0.2]
                have hfl : Dsk.files r1.1 = Dsk.files r2.1 := by rw [hrA0.2, hrA0.1]; rfl
                have dz : (r2.2 == 0) = false := by simp [hz]
                clear hrA0
                have hlk : (Dsk.files r2.1).length ≤ 1000000000 := by have h1 := hev'.out.ok.files; have h2 := Dsk.len_used (Dsk.files r2.1); omega
                have hfacts : Hid (∀ W, Below W8.heap.size W8 W → W.cell? ⟨C, 0, none⟩ = some (.slice saC snC scC) ∧ W.cell? ⟨C, 1, none⟩ = some (.slice oaC onC ocC) ∧ W.cell? ⟨C, 2, none⟩ = some (.int .i64 cpC) ∧ W.cell? ⟨C, 3, none⟩ = some (.int .i64 fsC) ∧ W.cell? ⟨C, 4, none⟩ = some (.bool dnC) ∧ W.cell? ⟨X, 0, none⟩ = some (.slice saX snX scX) ∧ W.cell? ⟨X, 1, none⟩ = some (.slice oaX onX ocX) ∧ W.cell? ⟨X, 2, none⟩ = some (.int .i64 cpX) ∧ W.cell? ⟨X, 3, none⟩ = some (.int .i64 fsX) ∧ W.cell? ⟨X, 4, none⟩ = some (.bool dnX)) := fun W hW => by
                  have k1' := hkC8.below hW hkC8.lt
                  have k2' := hkX8.below hW hkX8.lt
                  exact ⟨k1'.cell 0, k1'.cell 1, k1'.cell 2, k1'.cell 3, k1'.cell 4, k2'.cell 0, k2'.cell 1, k2'.cell 2, k2'.cell 3, k2'.cell 4⟩
                have HF : Hid (∀ W v, Below W8.heap.size W8 W → (DAt W v r1.1 ∨ DAt W v r2.1) → Calls Try.prog 17 #[v] W fun e w' => ∃ a c, e = .returned (.slice a (Dsk.files r2.1).length c) ∧ fileE.Row w' a (Dsk.files r2.1) ∧ Below W.heap.size W w' ∧ Below W8.heap.size W8 w' ∧ w'.cell? ⟨C, 0, none⟩ = some (.slice saC snC scC) ∧ w'.cell? ⟨C, 1, none⟩ = some (.slice oaC onC ocC) ∧ w'.cell? ⟨C, 2, none⟩ = some (.int .i64 cpC) ∧ w'.cell? ⟨C, 3, none⟩ = some (.int .i64 fsC) ∧ w'.cell? ⟨C, 4, none⟩ = some (.bool dnC) ∧ w'.cell? ⟨X, 0, none⟩ = some (.slice saX snX scX) ∧ w'.cell? ⟨X, 1, none⟩ = some (.slice oaX onX ocX) ∧ w'.cell? ⟨X, 2, none⟩ = some (.int .i64 cpX) ∧ w'.cell? ⟨X, 3, none⟩ = some (.int .i64 fsX) ∧ w'.cell? ⟨X, 4, none⟩ = some (.bool dnX)) := fun W v hW hv => by
                  rcases hv with hv | hv
                  · refine (files_any v _ W hokr.out hv).mono fun e w' ⟨v, h1, h2, h3⟩ => ?_
                    obtain ⟨a, c, h4, h5⟩ := h2.shape
                    rw [hfl] at h4 h5
                    exact ⟨a, c, by rw [h1, h4], h5, h3, Rg.chain hW h3, hfacts.out _ (Rg.chain hW h3)⟩
                  · refine (files_any v _ W hev'.out.ok hv).mono fun e w' ⟨v, h1, h2, h3⟩ => ?_
                    obtain ⟨a, c, h4, h5⟩ := h2.shape
                    exact ⟨a, c, by rw [h1, h4], h5, h3, Rg.chain hW h3, hfacts.out _ (Rg.chain hW h3)⟩
                have HSm : Hid (∀ W a c a' c', Below W8.heap.size W8 W → fileE.Row W a (Dsk.files r2.1) → fileE.Row W a' (Dsk.files r2.1) → Calls Try.prog 18 #[.slice a (Dsk.files r2.1).length c, .slice a' (Dsk.files r2.1).length c'] W fun e w' => e = .returned (.bool true) ∧ Below W8.heap.size W8 w' ∧ w'.cell? ⟨C, 0, none⟩ = some (.slice saC snC scC) ∧ w'.cell? ⟨C, 1, none⟩ = some (.slice oaC onC ocC) ∧ w'.cell? ⟨C, 2, none⟩ = some (.int .i64 cpC) ∧ w'.cell? ⟨C, 3, none⟩ = some (.int .i64 fsC) ∧ w'.cell? ⟨C, 4, none⟩ = some (.bool dnC) ∧ w'.cell? ⟨X, 0, none⟩ = some (.slice saX snX scX) ∧ w'.cell? ⟨X, 1, none⟩ = some (.slice oaX onX ocX) ∧ w'.cell? ⟨X, 2, none⟩ = some (.int .i64 cpX) ∧ w'.cell? ⟨X, 3, none⟩ = some (.int .i64 fsX) ∧ w'.cell? ⟨X, 4, none⟩ = some (.bool dnX)) := fun W a c a' c' hW h1 h2 => (same_any a c a' c' _ _ W hlk h1 h2).mono fun e w' ⟨h1, h2⟩ => ⟨by rw [h1]; simp, Rg.chain hW h2, hfacts.out _ (Rg.chain hW h2)⟩
                have hDCp : Hid (∀ W, Below W8.heap.size W8 W → DAt W (.agg #[.slice saC snC scC, .slice oaC onC ocC, .int .i64 cpC, .int .i64 fsC, .bool dnC]) r1.1) := fun W hW => hDC8.out.below hW
                have hDXp : Hid (∀ W, Below W8.heap.size W8 W → DAt W (.agg #[.slice saX snX scX, .slice oaX onX ocX, .int .i64 cpX, .int .i64 fsX, .bool dnX]) r2.1) := fun W hW => hDX8.out.below hW
                have hend : Hid (∀ W, Below W8.heap.size W8 W → Rg.Bk C [.slice saC snC scC, .slice oaC onC ocC, .int .i64 cpC, .int .i64 fsC, .bool dnC] 28 W ∧ Rg.Bk X [.slice saX snX scX, .slice oaX onX ocX, .int .i64 cpX, .int .i64 fsX, .bool dnX] 28 W ∧ DVar VA W (Dsk.refuse d ((K - q : Nat) : Int)) ∧ DVar VB W d ∧ Below w.heap.size w W) := fun W hW => ⟨hkC8.below hW hkC8.lt, hkX8.below hW hkX8.lt, hva8.out.below hW, hvb8.out.below hW, Rg.chain hbw8 hW⟩
                have y0 := hkX8.cell 0
                have y1 := hkX8.cell 1
                have y2 := hkX8.cell 2
                have y3 := hkX8.cell 3
                have y4 := hkX8.cell 4
                simp only [List.getElem?_cons_zero, List.getElem?_cons_succ] at y0 y1 y2 y3 y4
                have x0 := hkC8.cell 0
                have x1 := hkC8.cell 1
                have x2 := hkC8.cell 2
                have x3 := hkC8.cell 3
                have x4 := hkC8.cell 4
                simp only [List.getElem?_cons_zero, List.getElem?_cons_succ] at x0 x1 x2 x3 x4
                obtain ⟨r11, r12⟩ := r1
                dsimp only at hfeq hfl hDCp HF hokr hrA
                subst hfeq
                clear hap' hokr hva8 hvb8 hkC8 hDC8 hDX8 hkX8 hfacts hfl hlk HPb hbw8
                generalize (Dsk.files r2.1).length = LN at *
                generalize Dsk.files r2.1 = lk at *
                go_wp2
                go_region_held3 (fun w' => w'.cell? ⟨C, 0, none⟩ = some (.slice saC snC scC) ∧ w'.cell? ⟨C, 1, none⟩ = some (.slice oaC onC ocC) ∧ w'.cell? ⟨C, 2, none⟩ = some (.int .i64 cpC) ∧ w'.cell? ⟨C, 3, none⟩ = some (.int .i64 fsC) ∧ w'.cell? ⟨C, 4, none⟩ = some (.bool dnC) ∧ w'.cell? ⟨X, 0, none⟩ = some (.slice saX snX scX) ∧ w'.cell? ⟨X, 1, none⟩ = some (.slice oaX onX ocX) ∧ w'.cell? ⟨X, 2, none⟩ = some (.int .i64 cpX) ∧ w'.cell? ⟨X, 3, none⟩ = some (.int .i64 fsX) ∧ w'.cell? ⟨X, 4, none⟩ = some (.bool dnX)) (go_keep) (first
                  | (go_at_call 17; refine (HF.out _ _ ?_ ?_).mono ?_; (first | exact bW | exact Below.refl _ _ | exact (Below.refl _ _).drew); (first | exact .inl (hDCp.out _ bW) | exact .inl (hDCp.out _ (Below.refl _ _)) | exact .inl (hDCp.out _ (Below.refl _ _).drew) | exact .inr (hDXp.out _ bW) | exact .inr (hDXp.out _ (Below.refl _ _)) | exact .inr (hDXp.out _ (Below.refl _ _).drew)); rintro e wF ⟨fa, fc, rfl, hrF, bF, bW, z0, z1, z2, z3, z4, z5, z6, z7, z8, z9⟩)
                  | (go_at_call 18; refine (HSm.out _ _ _ _ _ bW ?_ ?_).mono ?_; (first | assumption | (refine Rg.El.Row.below ?_ bF; assumption)); (first | assumption | (refine Rg.El.Row.below ?_ bF; assumption)); rintro e wE ⟨rfl, bW2, t0, t1, t2, t3, t4, t5, t6, t7, t8, t9⟩))
                all_goals
                  obtain ⟨kC, kX, hvA, hvB, hbE⟩ := hend.out wE bW2
                  have hDCE := hDCp.out wE bW2
                  have hDXE := hDXp.out wE bW2
                  obtain ⟨hvA1, oA⟩ := hvA.store hDCE
                  have hvB1 := hvB.other hvA (Ne.symm hVAB) oA
                  obtain ⟨saP, snP, scP, oaP, onP, ocP, cpP, fsP, dnP, kA, hDA⟩ := hvA
                  have hDX1 := hDXE.only kA plainD oA
                  obtain ⟨hvB2, oB⟩ := hvB1.store hDX1
                  have hvA2 := hvA1.other hvB1 hVAB oB
                  have hbE2 := (hbE.trans (oA.bel hVw)).trans (oB.bel hVwB)
                  obtain ⟨saQ, snQ, scQ, oaQ, onQ, ocQ, cpQ, fsQ, dnQ, kB, hDB⟩ := hvB
                  have v0 := kA.cell 0
                  have v1 := kA.cell 1
                  have v2 := kA.cell 2
                  have v3 := kA.cell 3
                  have v4 := kA.cell 4
                  simp only [List.getElem?_cons_zero, List.getElem?_cons_succ] at v0 v1 v2 v3 v4
                  have u0 := kB.cell 0
                  have u1 := kB.cell 1
                  have u2 := kB.cell 2
                  have u3 := kB.cell 3
                  have u4 := kB.cell 4
                  simp only [List.getElem?_cons_zero, List.getElem?_cons_succ] at u0 u1 u2 u3 u4
                  have vf := kA.thaw
                  have uf := kB.thaw
                  have hvaF := Rg.hid hvA2
                  have hvbF := Rg.hid hvB2
                  have hbwF := Rg.hid hbE2
                  clear oA oB hvA1 hvB1 hDX1 hDCE hDXE kA kB hDA hDB hvA2 hvB2 hbE2 hbE kC kX hend hDCp hDXp HF HSm z0 z1 z2 z3 z4 z5 z6 z7 z8 z9 x0 x1 x2 x3 x4 y0 y1 y2 y3 y4 hrF bF bW bW2
                  go_wp2
                  go_big_region
                  go_wp2
                  go_roundw
                  case rel => exact ⟨i + 1, q, d, by omega, hq, by go_num, rfl, hkp, hwx0, by rw [← hrA.out]; exact hvaF.out.drew, by have h9 := hvbF.out.drew; rw [hrB.out] at h9; exact h9, hbwF.out.drew⟩
                  case measure => simp [intOf]; omega
      · obtain rfl : i = N := by omega
        go_wp2_with (go_at_call 9; refine (HA.out _ hbw).mono ?_)
        rintro e w9 ⟨rfl, b9⟩
        go_wp2
        go_ret
        exact ⟨rfl, b9⟩
end Go.Proofs.Ytlefodpbdjiapaa
