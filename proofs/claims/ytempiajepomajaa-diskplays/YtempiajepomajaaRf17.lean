/-
  Layer 6: DiskPlays.
-/
import Derived.Test.YtempiajepomajaaRf16
namespace Go.Proofs.Ytempiajepomajaa
open Go.RowKit

theorem told_var (c : Dsk.Cl) (hc : CFits c) (d : Dsk.Dk) (hd : Dsk.Ok d) (hw : Dsk.Wt d + c.x.size + 16 ≤ 10000000000) (W : World) (v : Value) (h : DAt W v d) :
    Calls Try.prog 9 #[v, .agg #[.int .i64 c.k, .string c.n, .string c.t, .string c.x, .int .i64 c.m]] W fun e w' => DEx W (Dsk.play d c) e w' :=
  (told_any v d c W hd hw hc.n hc.t h).mono fun _ _ q => q.ex

set_option maxHeartbeats 4000000 in
set_option maxRecDepth 100000 in
theorem plays_walk (n : Int) (a : Option Addr) (ca : Nat) (l : List Dsk.Cl) (hn : l.length ≤ 1000000000000000) (hfit : ∀ c ∈ l, CFits c) (w : World) (hrow : CRow0 w a l) :
    Calls Try.prog 3 #[.int .i64 n, .slice a l.length ca] w fun e w' => VPost (.bool true) w e w' := by
  have HH : Hid (Calls Try.prog 4 #[.slice a l.length ca] w fun e w' => HeavyPost l w e w') := heavy_any a ca l w hn hrow
  have HA : Hid (∀ W, Below w.heap.size w W → Calls Try.prog 5 #[] W fun e w' => VPost (.bool true) w e w') := fun W hW => (awake_any W).mono fun e w' ⟨h1, h2⟩ => ⟨h1, Rg.chain hW h2⟩
  obtain ⟨N, hN⟩ : ∃ N, N = l.length := ⟨_, rfl⟩
  rw [← hN] at HH hn ⊢
  replace hN := Rg.hid hN
  replace hrow := Rg.hid hrow
  replace hfit := Rg.hid hfit
  go_enter Try.func3, Try.ntmps3
  go_wp2_with (go_at_call 4; refine HH.out.mono ?_)
  intro e w1 h1
  obtain ⟨B, rfl, hB, b1⟩ := h1
  cases B
  case true =>
    go_wp2_with (go_at_call 5; refine (HA.out _ b1).mono ?_)
    rintro e w2 ⟨rfl, b2⟩
    go_wp2
    go_ret
    exact ⟨rfl, b2⟩
  case false =>
    have hL := hB rfl
    have hlen : N ≤ 150 := by rw [hN.out]; exact hL.len
    have hdat := Rg.hid hL.data
    clear hB hL HH
    have HNw : Hid (∀ W, Calls Try.prog 6 #[.int .i64 n] W fun e w' => VPost (.agg #[.slice none 0 0, .slice none 0 0, .int .i64 (Dsk.room n), .int .i64 (-1), .bool false]) W e w') := fun W => (new_any n W).mono fun e w' ⟨h1, h2⟩ => ⟨h1, h2⟩
    have HNr : Hid (∀ W, Calls Try.prog 7 #[.int .i64 n] W fun e w' => VPost (.agg #[.slice none 0 0, .slice none 0 0, .int .i64 (Dsk.room n), .int .i64 (-1), .bool false]) W e w') := fun W => (rnew_any n W).mono fun e w' ⟨h1, h2⟩ => ⟨h1, h2⟩
    have hD0 : Hid (∀ W, DAt W (.agg #[.slice none 0 0, .slice none 0 0, .int .i64 (Dsk.room n), .int .i64 (-1), .bool false]) (Dsk.new n)) := fun W => ⟨none, 0, none, 0, rfl, .inl ⟨rfl, rfl⟩, .inl ⟨rfl, rfl⟩, Nat.le_refl _, Nat.le_refl _⟩
    have hok0 := Rg.hid (Dsk.new_ok n)
    have hw00 : Hid (Dsk.Wt (Dsk.new n) ≤ 0 * 70016) := Nat.le_refl _
    generalize Dsk.new n = d0 at *
    generalize Dsk.room n = rm at *
    go_wp2_with (go_at_call 6; refine (HNw.out _).mono ?_)
    rintro e w2 ⟨rfl, b2⟩
    go_wp2_with (go_at_call 7; refine (HNr.out _).mono ?_)
    rintro e w3 ⟨rfl, b3⟩
    have hVA0 := Rg.hid ((DVar.new (hD0.out w3)).below (Rg.al1 (w3.alloc (.cells #[.slice none 0 0, .slice none 0 0, .int .i64 rm, .int .i64 (-1), .bool false] 28)) (.cells #[.slice none 0 0, .slice none 0 0, .int .i64 rm, .int .i64 (-1), .bool false] 28)))
    have hVB0 := Rg.hid (DVar.new (hD0.out (w3.alloc (.cells #[.slice none 0 0, .slice none 0 0, .int .i64 rm, .int .i64 (-1), .bool false] 28))))
    rw [show (w3.alloc (.cells #[.slice none 0 0, .slice none 0 0, .int .i64 rm, .int .i64 (-1), .bool false] 28)).heap.size = w3.heap.size + 1 by simp] at hVB0
    have hbw4 := Rg.chain (Rg.chain (Rg.chain b1 b2) b3) (Rg.al2 w3 (.cells #[.slice none 0 0, .slice none 0 0, .int .i64 rm, .int .i64 (-1), .bool false] 28) (.cells #[.slice none 0 0, .slice none 0 0, .int .i64 rm, .int .i64 (-1), .bool false] 28))
    have hVw : w.heap.size ≤ w3.heap.size := (Rg.chain (Rg.chain b1 b2) b3).size
    clear HNw HNr hD0 b1 b2 b3
    go_wp2
    generalize World.alloc _ _ = W4 at *
    obtain ⟨VB, hVB⟩ : ∃ VB, VB = w3.heap.size + 1 := ⟨_, rfl⟩
    rw [← hVB] at hVB0 ⊢
    generalize w3.heap.size = VA at *
    have hVAB : VA ≠ VB := by omega
    have hVwB : w.heap.size ≤ VB := by omega
    clear hVB
    go_loopw [29] (fun vi wr => ∃ (i : Nat) (d : Dsk.Dk), i ≤ N ∧ vi = .int .i64 i ∧ Hid (Dsk.Ok d) ∧ Hid (Dsk.Wt d ≤ i * 70016) ∧ Hid (DVar VA wr d) ∧ Hid (DVar VB wr d) ∧ Below w.heap.size w wr) (fun vi _ => N - (intOf vi).toNat)
    case atStart => exact ⟨0, d0, Nat.zero_le _, rfl, hok0, hw00, hVA0, hVB0, hbw4⟩
    case round =>
      obtain ⟨i, d, hin, rfl, hkp, hwt, hva, hvb, hbw⟩ := hrel
      clear hVA0 hVB0 hbw4 hok0 hw00
      by_cases hlt : i < N
      · have hil : i < l.length := by rw [← hN.out]; exact hlt
        obtain ⟨b, o, rfl, hb, hat⟩ : ∃ b o, a = some ⟨b, o, none⟩ ∧ b < w.heap.size ∧ Rg.At w b o (callE.flat l) := by
          rcases hrow.out with h | h
          · rw [h] at hil; simp at hil
          · exact h
        have at1 : Rg.At wr b (o + i * 5) (callE.enc l[i]) := (hat.elem hil).below hbw hb
        have hcf : CFits l[i] := hfit.out _ (List.getElem_mem hil)
        have hcd : l[i].x.size ≤ 70000 := hdat.out _ (List.getElem_mem hil)
        generalize l[i] = c at *
        have hw1 := Rg.hid (show Dsk.Wt d + c.x.size + 16 ≤ 10000000000 by have := hwt.out; omega)
        have HPa := Rg.hid (fun W v h => play_var c hcf d hkp.out hw1.out W v h)
        have HPb := Rg.hid (fun W v h => told_var c hcf d hkp.out hw1.out W v h)
        have hok2 : Hid (Dsk.Ok (Dsk.play d c).1) := (Dsk.play_ok hkp.out c hw1.out hcf.m).1
        have hwx := Rg.hid (show Dsk.Wt (Dsk.play d c).1 ≤ (i + 1) * 70016 by have := (Dsk.play_ok hkp.out c hw1.out hcf.m).2; have := hwt.out; omega)
        generalize Dsk.play d c = r at *
        obtain ⟨d2, er⟩ := r
        dsimp only at HPa HPb hok2 hwx
        obtain ⟨ck, cn, ct, cx, cm⟩ := c
        obtain ⟨c0, c1, c2, c3, c4⟩ := call_at at1
        dsimp only at HPa HPb
        have hz0 : (0 : Int) ≤ (i : Int) := by omega
        have hz1 : (i : Int) < (N : Int) := by omega
        have bn := hbw.alloc hbw.size (.cells #[.int .i64 ck, .string cn, .string ct, .string cx, .int .i64 cm] 31)
        have hvan := Rg.hid (hva.out.below (Rg.al1 wr (.cells #[.int .i64 ck, .string cn, .string ct, .string cx, .int .i64 cm] 31)))
        have hvbn := Rg.hid (hvb.out.below (Rg.al1 wr (.cells #[.int .i64 ck, .string cn, .string ct, .string cx, .int .i64 cm] 31)))
        obtain ⟨saA, snA, scA, oaA, onA, ocA, cpA, fsA, dnA, kA, hDA⟩ := hva.out
        have v0 := kA.cell 0
        have v1 := kA.cell 1
        have v2 := kA.cell 2
        have v3 := kA.cell 3
        have v4 := kA.cell 4
        simp only [List.getElem?_cons_zero, List.getElem?_cons_succ] at v0 v1 v2 v3 v4
        have HP2 := Rg.hid (HPa.out (wr.alloc (.cells #[.int .i64 ck, .string cn, .string ct, .string cx, .int .i64 cm] 31)) _ (hDA.below (Rg.al1 _ _)))
        have hVAlt := kA.lt
        clear at1 hat hil hrow hcf hcd hw1 hwt hDA HPa hva hvb kA
        go_upto_region 8 with (go_at_call 8; refine HP2.out.mono ?_; rintro e w6 ⟨saC, snC, scC, oaC, onC, ocC, cpC, fsC, dnC, rfl, hDC, b6⟩)
        have hva := Rg.hid ((hvan.out.below b6).below (Rg.al1 w6 (.cells #[.slice saC snC scC, .slice oaC onC ocC, .int .i64 cpC, .int .i64 fsC, .bool dnC] 28)))
        have hvb := Rg.hid ((hvbn.out.below b6).below (Rg.al1 w6 (.cells #[.slice saC snC scC, .slice oaC onC ocC, .int .i64 cpC, .int .i64 fsC, .bool dnC] 28)))
        have hkO : Rg.Bk wr.heap.size [.int .i64 ck, .string cn, .string ct, .string cx, .int .i64 cm] 31 (w6.alloc (.cells #[.slice saC snC scC, .slice oaC onC ocC, .int .i64 cpC, .int .i64 fsC, .bool dnC] 28)) := (Rg.Bk.below (Rg.Bk.new rfl) b6 (by simp)).old _
        have hkC : Rg.Bk w6.heap.size [.slice saC snC scC, .slice oaC onC ocC, .int .i64 cpC, .int .i64 fsC, .bool dnC] 28 (w6.alloc (.cells #[.slice saC snC scC, .slice oaC onC ocC, .int .i64 cpC, .int .i64 fsC, .bool dnC] 28)) := Rg.Bk.new rfl
        have hbw7 := Rg.chain (Rg.chain bn b6) (Rg.al1 w6 (.cells #[.slice saC snC scC, .slice oaC onC ocC, .int .i64 cpC, .int .i64 fsC, .bool dnC] 28))
        have hneC : VA ≠ w6.heap.size ∧ VB ≠ w6.heap.size := by have h1 := hvan.out.lt; have h2 := hvbn.out.lt; have h3 := b6.size; omega
        replace hDC := Rg.hid (hDC.below (Rg.al1 w6 (.cells #[.slice saC snC scC, .slice oaC onC ocC, .int .i64 cpC, .int .i64 fsC, .bool dnC] 28)))
        clear hVAlt v0 v1 v2 v3 v4 b6 hvan hvbn HP2 c0 c1 c2 c3 c4 bn
        generalize w6.alloc _ = W7 at *
        generalize w6.heap.size = C at *
        generalize wr.heap.size = OB at *
        obtain ⟨saB, snB, scB, oaB, onB, ocB, cpB, fsB, dnB, kB, hDB⟩ := hvb.out
        have v0 := kB.cell 0
        have v1 := kB.cell 1
        have v2 := kB.cell 2
        have v3 := kB.cell 3
        have v4 := kB.cell 4
        simp only [List.getElem?_cons_zero, List.getElem?_cons_succ] at v0 v1 v2 v3 v4
        have o0 := hkO.cell 0
        have o1 := hkO.cell 1
        have o2 := hkO.cell 2
        have o3 := hkO.cell 3
        have o4 := hkO.cell 4
        simp only [List.getElem?_cons_zero, List.getElem?_cons_succ] at o0 o1 o2 o3 o4
        have HP2 := Rg.hid (HPb.out W7 _ hDB)
        have hkO' := Rg.hid hkO
        have hkC' := Rg.hid hkC
        have hbw7' := Rg.hid hbw7
        clear kB hDB HPb hkO hkC hbw7
        go_upto_region 9 with (go_at_call 9; refine HP2.out.mono ?_; rintro e w8 ⟨saX, snX, scX, oaX, onX, ocX, cpX, fsX, dnX, rfl, hDX, b8⟩)
        have hva8 := Rg.hid ((hva.out.below b8).below (Rg.al1 w8 (.cells #[.slice saX snX scX, .slice oaX onX ocX, .int .i64 cpX, .int .i64 fsX, .bool dnX] 28)))
        have hvb8 := Rg.hid ((hvb.out.below b8).below (Rg.al1 w8 (.cells #[.slice saX snX scX, .slice oaX onX ocX, .int .i64 cpX, .int .i64 fsX, .bool dnX] 28)))
        have hkC8 := (hkC'.out.below b8 hkC'.out.lt).old (.cells #[.slice saX snX scX, .slice oaX onX ocX, .int .i64 cpX, .int .i64 fsX, .bool dnX] 28)
        have hkO8 := (hkO'.out.below b8 hkO'.out.lt).old (.cells #[.slice saX snX scX, .slice oaX onX ocX, .int .i64 cpX, .int .i64 fsX, .bool dnX] 28)
        have hDC8 := Rg.hid ((hDC.out.below b8).below (Rg.al1 w8 (.cells #[.slice saX snX scX, .slice oaX onX ocX, .int .i64 cpX, .int .i64 fsX, .bool dnX] 28)))
        have hDX8 := Rg.hid (hDX.below (Rg.al1 w8 (.cells #[.slice saX snX scX, .slice oaX onX ocX, .int .i64 cpX, .int .i64 fsX, .bool dnX] 28)))
        have hkX8 : Rg.Bk w8.heap.size [.slice saX snX scX, .slice oaX onX ocX, .int .i64 cpX, .int .i64 fsX, .bool dnX] 28 (w8.alloc (.cells #[.slice saX snX scX, .slice oaX onX ocX, .int .i64 cpX, .int .i64 fsX, .bool dnX] 28)) := Rg.Bk.new rfl
        have hbw8 := Rg.hid (Rg.chain (Rg.chain hbw7'.out b8) (Rg.al1 w8 (.cells #[.slice saX snX scX, .slice oaX onX ocX, .int .i64 cpX, .int .i64 fsX, .bool dnX] 28)))
        have hneX : VA ≠ w8.heap.size ∧ VB ≠ w8.heap.size := by have h1 := hva.out.lt; have h2 := hvb.out.lt; have h3 := b8.size; omega
        clear v0 v1 v2 v3 v4 o0 o1 o2 o3 o4 b8 hva hvb HP2 hkO' hkC' hbw7' hDC hDX
        generalize w8.alloc _ = W9 at *
        generalize w8.heap.size = X at *
        -- the two of Read
        have HR : Hid (∀ W v, DAt W v d2 → Calls Try.prog 10 #[v, .string cn] W fun e w' => VPost (.tuple #[.string (Dsk.read d2 cn).1, .int .i64 (Dsk.read d2 cn).2]) W e w') := fun W v h => read_any v d2 cn W hok2.out h
        have HRr : Hid (∀ W v, DAt W v d2 → Calls Try.prog 11 #[v, .string cn] W fun e w' => VPost (.tuple #[.string (Dsk.read d2 cn).1, .int .i64 (Dsk.read d2 cn).2]) W e w') := fun W v h => rread_any v d2 cn W hok2.out h
        generalize (Dsk.read d2 cn).1 = RS at *
        generalize (Dsk.read d2 cn).2 = RE at *
        have v0 := hkC8.cell 0
        have v1 := hkC8.cell 1
        have v2 := hkC8.cell 2
        have v3 := hkC8.cell 3
        have v4 := hkC8.cell 4
        simp only [List.getElem?_cons_zero, List.getElem?_cons_succ] at v0 v1 v2 v3 v4
        have o1 := hkO8.cell 1
        simp only [List.getElem?_cons_zero, List.getElem?_cons_succ] at o1
        have hkC8' := Rg.hid hkC8
        have hkO8' := Rg.hid hkO8
        have hkX8' := Rg.hid hkX8
        clear hkC8 hkO8 hkX8
        go_upto_region 10 with (go_at_call 10; refine (HR.out _ _ hDC8.out).mono ?_; rintro e w10 ⟨rfl, b10⟩)
        have hva10 := Rg.hid (hva8.out.below b10)
        have hvb10 := Rg.hid (hvb8.out.below b10)
        have hkC10 := Rg.hid (hkC8'.out.below b10 hkC8'.out.lt)
        have hkO10 := hkO8'.out.below b10 hkO8'.out.lt
        have hkX10 := hkX8'.out.below b10 hkX8'.out.lt
        have hDC10 := Rg.hid (hDC8.out.below b10)
        have hDX10 := Rg.hid (hDX8.out.below b10)
        have hbw10 := Rg.hid (Rg.chain hbw8.out b10)
        clear v0 v1 v2 v3 v4 o1 b10 hva8 hvb8 hkC8' hkO8' hkX8' hDC8 hDX8 hbw8 HR
        have v0 := hkX10.cell 0
        have v1 := hkX10.cell 1
        have v2 := hkX10.cell 2
        have v3 := hkX10.cell 3
        have v4 := hkX10.cell 4
        simp only [List.getElem?_cons_zero, List.getElem?_cons_succ] at v0 v1 v2 v3 v4
        have o1 := hkO10.cell 1
        simp only [List.getElem?_cons_zero, List.getElem?_cons_succ] at o1
        have hkX10' := Rg.hid hkX10
        clear hkX10 hkO10
        go_upto_region 11 with (go_at_call 11; refine (HRr.out _ _ hDX10.out).mono ?_; rintro e w11 ⟨rfl, b11⟩)
        have hva11 := Rg.hid (hva10.out.below b11)
        have hvb11 := Rg.hid (hvb10.out.below b11)
        have hkC11 := hkC10.out.below b11 hkC10.out.lt
        have hkX11 := hkX10'.out.below b11 hkX10'.out.lt
        have hDC11 := hDC10.out.below b11
        have hDX11 := hDX10.out.below b11
        have hbw11 := Rg.hid (Rg.chain hbw10.out b11)
        clear v0 v1 v2 v3 v4 o1 b11 hva10 hvb10 hkC10 hkX10' hDC10 hDX10 hbw10 HRr
        -- the two lists of names
        obtain ⟨NM, hNM⟩ : ∃ NM, NM = (Dsk.files d2).map (·.n) := ⟨_, rfl⟩
        obtain ⟨NN, hNN⟩ : ∃ NN, NN = NM.length := ⟨_, rfl⟩
        have hcl : Hid (∀ W, Below w11.heap.size w11 W → W.cell? ⟨C, 0, none⟩ = some (.slice saC snC scC) ∧ W.cell? ⟨C, 1, none⟩ = some (.slice oaC onC ocC) ∧ W.cell? ⟨C, 2, none⟩ = some (.int .i64 cpC) ∧ W.cell? ⟨C, 3, none⟩ = some (.int .i64 fsC) ∧ W.cell? ⟨C, 4, none⟩ = some (.bool dnC) ∧ W.cell? ⟨X, 0, none⟩ = some (.slice saX snX scX) ∧ W.cell? ⟨X, 1, none⟩ = some (.slice oaX onX ocX) ∧ W.cell? ⟨X, 2, none⟩ = some (.int .i64 cpX) ∧ W.cell? ⟨X, 3, none⟩ = some (.int .i64 fsX) ∧ W.cell? ⟨X, 4, none⟩ = some (.bool dnX)) := fun W hW => by
          have k1 := hkC11.below hW hkC11.lt
          have k2 := hkX11.below hW hkX11.lt
          exact ⟨k1.cell 0, k1.cell 1, k1.cell 2, k1.cell 3, k1.cell 4, k2.cell 0, k2.cell 1, k2.cell 2, k2.cell 3, k2.cell 4⟩
        have HL : Hid (∀ W, Below w11.heap.size w11 W → Calls Try.prog 12 #[.agg #[.slice saC snC scC, .slice oaC onC ocC, .int .i64 cpC, .int .i64 fsC, .bool dnC]] W fun e w' => ∃ la lc, e = .returned (.slice la NN lc) ∧ Hid (strE.Row w' la NM) ∧ Below w11.heap.size w11 w' ∧ Below W.heap.size W w' ∧ w'.cell? ⟨C, 0, none⟩ = some (.slice saC snC scC) ∧ w'.cell? ⟨C, 1, none⟩ = some (.slice oaC onC ocC) ∧ w'.cell? ⟨C, 2, none⟩ = some (.int .i64 cpC) ∧ w'.cell? ⟨C, 3, none⟩ = some (.int .i64 fsC) ∧ w'.cell? ⟨C, 4, none⟩ = some (.bool dnC) ∧ w'.cell? ⟨X, 0, none⟩ = some (.slice saX snX scX) ∧ w'.cell? ⟨X, 1, none⟩ = some (.slice oaX onX ocX) ∧ w'.cell? ⟨X, 2, none⟩ = some (.int .i64 cpX) ∧ w'.cell? ⟨X, 3, none⟩ = some (.int .i64 fsX) ∧ w'.cell? ⟨X, 4, none⟩ = some (.bool dnX)) := fun W hW => (list_any _ d2 W hok2.out (hDC11.below hW)).mono fun e w' ⟨la, lc, h1, h2, _, h4⟩ => ⟨la, lc, by rw [h1, hNN, hNM], by rw [hNM]; exact h2, Rg.chain hW h4, h4, hcl.out _ (Rg.chain hW h4)⟩
        have HLr : Hid (∀ W, Below w11.heap.size w11 W → Calls Try.prog 13 #[.agg #[.slice saX snX scX, .slice oaX onX ocX, .int .i64 cpX, .int .i64 fsX, .bool dnX]] W fun e w' => ∃ la lc, e = .returned (.slice la NN lc) ∧ Hid (strE.Row w' la NM) ∧ Below w11.heap.size w11 w' ∧ Below W.heap.size W w' ∧ w'.cell? ⟨C, 0, none⟩ = some (.slice saC snC scC) ∧ w'.cell? ⟨C, 1, none⟩ = some (.slice oaC onC ocC) ∧ w'.cell? ⟨C, 2, none⟩ = some (.int .i64 cpC) ∧ w'.cell? ⟨C, 3, none⟩ = some (.int .i64 fsC) ∧ w'.cell? ⟨C, 4, none⟩ = some (.bool dnC) ∧ w'.cell? ⟨X, 0, none⟩ = some (.slice saX snX scX) ∧ w'.cell? ⟨X, 1, none⟩ = some (.slice oaX onX ocX) ∧ w'.cell? ⟨X, 2, none⟩ = some (.int .i64 cpX) ∧ w'.cell? ⟨X, 3, none⟩ = some (.int .i64 fsX) ∧ w'.cell? ⟨X, 4, none⟩ = some (.bool dnX)) := fun W hW => (rlist_any _ d2 W hok2.out (hDX11.below hW)).mono fun e w' ⟨la, lc, h1, h2, _, h4⟩ => ⟨la, lc, by rw [h1, hNN, hNM], by rw [hNM]; exact h2, Rg.chain hW h4, h4, hcl.out _ (Rg.chain hW h4)⟩
        go_cut [17, 18] (fun s17 s18 wx => ∃ la lc ra rc, s17 = .slice la NN lc ∧ s18 = .slice ra NN rc ∧ Hid (strE.Row wx la NM) ∧ Hid (strE.Row wx ra NM) ∧ Below w11.heap.size w11 wx)
        case first =>
          obtain ⟨z0, z1, z2, z3, z4, z5, z6, z7, z8, z9⟩ := hcl.out w11 (Below.refl _ _)
          clear hkC11 hkX11 hDC11 hDX11 hNM hNN hcl
          go_region_held3 (fun w' => w'.cell? ⟨C, 0, none⟩ = some (.slice saC snC scC) ∧ w'.cell? ⟨C, 1, none⟩ = some (.slice oaC onC ocC) ∧ w'.cell? ⟨C, 2, none⟩ = some (.int .i64 cpC) ∧ w'.cell? ⟨C, 3, none⟩ = some (.int .i64 fsC) ∧ w'.cell? ⟨C, 4, none⟩ = some (.bool dnC) ∧ w'.cell? ⟨X, 0, none⟩ = some (.slice saX snX scX) ∧ w'.cell? ⟨X, 1, none⟩ = some (.slice oaX onX ocX) ∧ w'.cell? ⟨X, 2, none⟩ = some (.int .i64 cpX) ∧ w'.cell? ⟨X, 3, none⟩ = some (.int .i64 fsX) ∧ w'.cell? ⟨X, 4, none⟩ = some (.bool dnX)) (go_keep) (first
            | (go_at_call 12; refine (HL.out _ ?_).mono ?_; (first | exact Below.refl _ _ | exact (Below.refl _ _).drew); rintro e wL ⟨la, lc, rfl, hrL, bL, bL', p0, p1, p2, p3, p4, p5, p6, p7, p8, p9⟩)
            | (go_at_call 13; have hbb := bL; clear hbb; refine (HLr.out _ bL).mono ?_; rintro e wR ⟨ra, rc, rfl, hrR, bR, bR', q0, q1, q2, q3, q4, q5, q6, q7, q8, q9⟩))
          go_wp2_with fail; go_meet
          exact ⟨la, lc, ra, rc, rfl, rfl, hrL.out.below bR', hrR, bR⟩
        case rest =>
          obtain ⟨la, lc, ra, rc, rfl, rfl, hrL, hrR, b12⟩ := hcut
          clear HL HLr hcl
          have hva12 := Rg.hid (hva11.out.below b12)
          have hvb12 := Rg.hid (hvb11.out.below b12)
          have hkC12 := hkC11.below b12 hkC11.lt
          have hkX12 := hkX11.below b12 hkX11.lt
          have hDC12 := hDC11.below b12
          have hDX12 := hDX11.below b12
          have hbw12 := Rg.hid (Rg.chain hbw11.out b12)
          clear hva11 hvb11 hkC11 hkX11 hDC11 hDX11 hbw11 b12
          obtain ⟨w12, hw12⟩ : ∃ w12, w12 = wc := ⟨_, rfl⟩
          subst hw12
          have hNB : NN ≤ 1000000000 := by rw [hNN, hNM]; have h1 := hok2.out.files; have h2 := Dsk.len_used (Dsk.files d2); simp; omega
          obtain ⟨FL, hFL⟩ : ∃ FL, FL = Dsk.files d2 := ⟨_, rfl⟩
          obtain ⟨FN, hFN⟩ : ∃ FN, FN = FL.length := ⟨_, rfl⟩
          obtain ⟨U, hU⟩ : ∃ U, U = Dsk.used (Dsk.files d2) := ⟨_, rfl⟩
          have hFb : FL.length ≤ 1000000000 := by rw [hFL]; have h1 := hok2.out.files; have h2 := Dsk.len_used (Dsk.files d2); omega
          have hcl : Hid (∀ W, Below w12.heap.size w12 W → W.cell? ⟨C, 0, none⟩ = some (.slice saC snC scC) ∧ W.cell? ⟨C, 1, none⟩ = some (.slice oaC onC ocC) ∧ W.cell? ⟨C, 2, none⟩ = some (.int .i64 cpC) ∧ W.cell? ⟨C, 3, none⟩ = some (.int .i64 fsC) ∧ W.cell? ⟨C, 4, none⟩ = some (.bool dnC) ∧ W.cell? ⟨X, 0, none⟩ = some (.slice saX snX scX) ∧ W.cell? ⟨X, 1, none⟩ = some (.slice oaX onX ocX) ∧ W.cell? ⟨X, 2, none⟩ = some (.int .i64 cpX) ∧ W.cell? ⟨X, 3, none⟩ = some (.int .i64 fsX) ∧ W.cell? ⟨X, 4, none⟩ = some (.bool dnX)) := fun W hW => by
            have k1 := hkC12.below hW hkC12.lt
            have k2 := hkX12.below hW hkX12.lt
            exact ⟨k1.cell 0, k1.cell 1, k1.cell 2, k1.cell 3, k1.cell 4, k2.cell 0, k2.cell 1, k2.cell 2, k2.cell 3, k2.cell 4⟩
          have HS : Hid (∀ W, Below w12.heap.size w12 W → Calls Try.prog 14 #[.agg #[.slice saC snC scC, .slice oaC onC ocC, .int .i64 cpC, .int .i64 fsC, .bool dnC], .agg #[.slice saX snX scX, .slice oaX onX ocX, .int .i64 cpX, .int .i64 fsX, .bool dnX]] W fun e w' => e = .returned (.bool true) ∧ Below w12.heap.size w12 w' ∧ w'.cell? ⟨C, 0, none⟩ = some (.slice saC snC scC) ∧ w'.cell? ⟨C, 1, none⟩ = some (.slice oaC onC ocC) ∧ w'.cell? ⟨C, 2, none⟩ = some (.int .i64 cpC) ∧ w'.cell? ⟨C, 3, none⟩ = some (.int .i64 fsC) ∧ w'.cell? ⟨C, 4, none⟩ = some (.bool dnC) ∧ w'.cell? ⟨X, 0, none⟩ = some (.slice saX snX scX) ∧ w'.cell? ⟨X, 1, none⟩ = some (.slice oaX onX ocX) ∧ w'.cell? ⟨X, 2, none⟩ = some (.int .i64 cpX) ∧ w'.cell? ⟨X, 3, none⟩ = some (.int .i64 fsX) ∧ w'.cell? ⟨X, 4, none⟩ = some (.bool dnX)) := fun W hW => by
            have := sameD_any _ _ d2 d2 W hok2.out (hDC12.below hW) (hDX12.below hW)
            rw [Dsk.sameD_refl] at this
            exact this.mono fun e w' ⟨h1, h4⟩ => ⟨h1, Rg.chain hW h4, hcl.out _ (Rg.chain hW h4)⟩
          have HSr : Hid (∀ W, Below w12.heap.size w12 W → Calls Try.prog 15 #[.agg #[.slice saC snC scC, .slice oaC onC ocC, .int .i64 cpC, .int .i64 fsC, .bool dnC], .agg #[.slice saX snX scX, .slice oaX onX ocX, .int .i64 cpX, .int .i64 fsX, .bool dnX]] W fun e w' => e = .returned (.bool true) ∧ Below w12.heap.size w12 w' ∧ w'.cell? ⟨C, 0, none⟩ = some (.slice saC snC scC) ∧ w'.cell? ⟨C, 1, none⟩ = some (.slice oaC onC ocC) ∧ w'.cell? ⟨C, 2, none⟩ = some (.int .i64 cpC) ∧ w'.cell? ⟨C, 3, none⟩ = some (.int .i64 fsC) ∧ w'.cell? ⟨C, 4, none⟩ = some (.bool dnC) ∧ w'.cell? ⟨X, 0, none⟩ = some (.slice saX snX scX) ∧ w'.cell? ⟨X, 1, none⟩ = some (.slice oaX onX ocX) ∧ w'.cell? ⟨X, 2, none⟩ = some (.int .i64 cpX) ∧ w'.cell? ⟨X, 3, none⟩ = some (.int .i64 fsX) ∧ w'.cell? ⟨X, 4, none⟩ = some (.bool dnX)) := fun W hW => (rsame_any _ _ d2 W hok2.out (hDC12.below hW) (hDX12.below hW)).mono fun e w' ⟨h1, h4⟩ => ⟨h1, Rg.chain hW h4, hcl.out _ (Rg.chain hW h4)⟩
          have HU : Hid (∀ W, Below w12.heap.size w12 W → Calls Try.prog 16 #[.agg #[.slice saC snC scC, .slice oaC onC ocC, .int .i64 cpC, .int .i64 fsC, .bool dnC]] W fun e w' => e = .returned (.int .i64 U) ∧ Below w12.heap.size w12 w' ∧ w'.cell? ⟨C, 0, none⟩ = some (.slice saC snC scC) ∧ w'.cell? ⟨C, 1, none⟩ = some (.slice oaC onC ocC) ∧ w'.cell? ⟨C, 2, none⟩ = some (.int .i64 cpC) ∧ w'.cell? ⟨C, 3, none⟩ = some (.int .i64 fsC) ∧ w'.cell? ⟨C, 4, none⟩ = some (.bool dnC) ∧ w'.cell? ⟨X, 0, none⟩ = some (.slice saX snX scX) ∧ w'.cell? ⟨X, 1, none⟩ = some (.slice oaX onX ocX) ∧ w'.cell? ⟨X, 2, none⟩ = some (.int .i64 cpX) ∧ w'.cell? ⟨X, 3, none⟩ = some (.int .i64 fsX) ∧ w'.cell? ⟨X, 4, none⟩ = some (.bool dnX)) := fun W hW => (used_any _ d2 W hok2.out (hDC12.below hW)).mono fun e w' ⟨h1, h4⟩ => ⟨by rw [h1, hU], Rg.chain hW h4, hcl.out _ (Rg.chain hW h4)⟩
          have HUr : Hid (∀ W, Below w12.heap.size w12 W → Calls Try.prog 17 #[.agg #[.slice saX snX scX, .slice oaX onX ocX, .int .i64 cpX, .int .i64 fsX, .bool dnX]] W fun e w' => e = .returned (.int .i64 U) ∧ Below w12.heap.size w12 w' ∧ w'.cell? ⟨C, 0, none⟩ = some (.slice saC snC scC) ∧ w'.cell? ⟨C, 1, none⟩ = some (.slice oaC onC ocC) ∧ w'.cell? ⟨C, 2, none⟩ = some (.int .i64 cpC) ∧ w'.cell? ⟨C, 3, none⟩ = some (.int .i64 fsC) ∧ w'.cell? ⟨C, 4, none⟩ = some (.bool dnC) ∧ w'.cell? ⟨X, 0, none⟩ = some (.slice saX snX scX) ∧ w'.cell? ⟨X, 1, none⟩ = some (.slice oaX onX ocX) ∧ w'.cell? ⟨X, 2, none⟩ = some (.int .i64 cpX) ∧ w'.cell? ⟨X, 3, none⟩ = some (.int .i64 fsX) ∧ w'.cell? ⟨X, 4, none⟩ = some (.bool dnX)) := fun W hW => (rused_any _ d2 W hok2.out (hDX12.below hW)).mono fun e w' ⟨h1, h4⟩ => ⟨by rw [h1, hU], Rg.chain hW h4, hcl.out _ (Rg.chain hW h4)⟩
          have HF : Hid (∀ W, Below w12.heap.size w12 W → Calls Try.prog 19 #[.agg #[.slice saC snC scC, .slice oaC onC ocC, .int .i64 cpC, .int .i64 fsC, .bool dnC]] W fun e w' => ∃ fa fc, e = .returned (.slice fa FN fc) ∧ Hid (fileE.Row w' fa FL) ∧ Below w12.heap.size w12 w' ∧ w'.cell? ⟨C, 0, none⟩ = some (.slice saC snC scC) ∧ w'.cell? ⟨C, 1, none⟩ = some (.slice oaC onC ocC) ∧ w'.cell? ⟨C, 2, none⟩ = some (.int .i64 cpC) ∧ w'.cell? ⟨C, 3, none⟩ = some (.int .i64 fsC) ∧ w'.cell? ⟨C, 4, none⟩ = some (.bool dnC) ∧ w'.cell? ⟨X, 0, none⟩ = some (.slice saX snX scX) ∧ w'.cell? ⟨X, 1, none⟩ = some (.slice oaX onX ocX) ∧ w'.cell? ⟨X, 2, none⟩ = some (.int .i64 cpX) ∧ w'.cell? ⟨X, 3, none⟩ = some (.int .i64 fsX) ∧ w'.cell? ⟨X, 4, none⟩ = some (.bool dnX)) := fun W hW => (files_any _ d2 W hok2.out (hDC12.below hW)).mono fun e w' ⟨v, h1, h2, h3⟩ => by
            obtain ⟨fa, fc, h4, h5⟩ := h2.shape
            exact ⟨fa, fc, by rw [h1, h4, hFN, hFL], by rw [hFL]; exact h5, Rg.chain hW h3, hcl.out _ (Rg.chain hW h3)⟩
          have HFr : Hid (∀ W, Below w12.heap.size w12 W → Calls Try.prog 20 #[.agg #[.slice saX snX scX, .slice oaX onX ocX, .int .i64 cpX, .int .i64 fsX, .bool dnX]] W fun e w' => ∃ fa fc, e = .returned (.slice fa FN fc) ∧ Hid (fileE.Row w' fa FL) ∧ Below w12.heap.size w12 w' ∧ Below W.heap.size W w' ∧ w'.cell? ⟨C, 0, none⟩ = some (.slice saC snC scC) ∧ w'.cell? ⟨C, 1, none⟩ = some (.slice oaC onC ocC) ∧ w'.cell? ⟨C, 2, none⟩ = some (.int .i64 cpC) ∧ w'.cell? ⟨C, 3, none⟩ = some (.int .i64 fsC) ∧ w'.cell? ⟨C, 4, none⟩ = some (.bool dnC) ∧ w'.cell? ⟨X, 0, none⟩ = some (.slice saX snX scX) ∧ w'.cell? ⟨X, 1, none⟩ = some (.slice oaX onX ocX) ∧ w'.cell? ⟨X, 2, none⟩ = some (.int .i64 cpX) ∧ w'.cell? ⟨X, 3, none⟩ = some (.int .i64 fsX) ∧ w'.cell? ⟨X, 4, none⟩ = some (.bool dnX)) := fun W hW => (rfiles_any _ d2 W hok2.out (hDX12.below hW)).mono fun e w' ⟨fa, fc, h1, h2, _, h3⟩ => ⟨fa, fc, by rw [h1, hFN, hFL], by rw [hFL]; exact h2, Rg.chain hW h3, h3, hcl.out _ (Rg.chain hW h3)⟩
          have HM : Hid (∀ W fa fc fb fd, Below w12.heap.size w12 W → Hid (fileE.Row W fa FL) → Hid (fileE.Row W fb FL) → Calls Try.prog 18 #[.slice fa FN fc, .slice fb FN fd] W fun e w' => e = .returned (.bool true) ∧ Below w12.heap.size w12 w' ∧ w'.cell? ⟨C, 0, none⟩ = some (.slice saC snC scC) ∧ w'.cell? ⟨C, 1, none⟩ = some (.slice oaC onC ocC) ∧ w'.cell? ⟨C, 2, none⟩ = some (.int .i64 cpC) ∧ w'.cell? ⟨C, 3, none⟩ = some (.int .i64 fsC) ∧ w'.cell? ⟨C, 4, none⟩ = some (.bool dnC) ∧ w'.cell? ⟨X, 0, none⟩ = some (.slice saX snX scX) ∧ w'.cell? ⟨X, 1, none⟩ = some (.slice oaX onX ocX) ∧ w'.cell? ⟨X, 2, none⟩ = some (.int .i64 cpX) ∧ w'.cell? ⟨X, 3, none⟩ = some (.int .i64 fsX) ∧ w'.cell? ⟨X, 4, none⟩ = some (.bool dnX)) := fun W fa fc fb fd hW h1 h2 => by
            have := same_any fa fc fb fd FL FL W hFb h1.out h2.out
            rw [← hFN, show decide (FL = FL) = true by simp] at this
            exact this.mono fun e w' ⟨h1, h4⟩ => ⟨h1, Rg.chain hW h4, hcl.out _ (Rg.chain hW h4)⟩
          go_upto_region 12 with fail
          go_cut [109] (fun s wx => s = .bool false ∧ Below w12.heap.size w12 wx)
          case first =>
            obtain ⟨z0, z1, z2, z3, z4, z5, z6, z7, z8, z9⟩ := hcl.out w12 (Below.refl _ _)
            clear hkC12 hkX12 hDC12 hDX12 hNM hNN hcl hFL hFN hU hFb hrL hrR
            go_region_held3 (fun w' => w'.cell? ⟨C, 0, none⟩ = some (.slice saC snC scC) ∧ w'.cell? ⟨C, 1, none⟩ = some (.slice oaC onC ocC) ∧ w'.cell? ⟨C, 2, none⟩ = some (.int .i64 cpC) ∧ w'.cell? ⟨C, 3, none⟩ = some (.int .i64 fsC) ∧ w'.cell? ⟨C, 4, none⟩ = some (.bool dnC) ∧ w'.cell? ⟨X, 0, none⟩ = some (.slice saX snX scX) ∧ w'.cell? ⟨X, 1, none⟩ = some (.slice oaX onX ocX) ∧ w'.cell? ⟨X, 2, none⟩ = some (.int .i64 cpX) ∧ w'.cell? ⟨X, 3, none⟩ = some (.int .i64 fsX) ∧ w'.cell? ⟨X, 4, none⟩ = some (.bool dnX)) (go_keep) (first
              | (go_at_call 14; refine (HS.out _ ?_).mono ?_; (first | exact Below.refl _ _ | exact (Below.refl _ _).drew); rintro e s1 ⟨rfl, bs1, p10, p11, p12, p13, p14, p15, p16, p17, p18, p19⟩)
              | (go_at_call 15; refine (HSr.out _ bs1).mono ?_; rintro e s2 ⟨rfl, bs2, p20, p21, p22, p23, p24, p25, p26, p27, p28, p29⟩)
              | (go_at_call 16; refine (HU.out _ bs2).mono ?_; rintro e s3 ⟨rfl, bs3, p30, p31, p32, p33, p34, p35, p36, p37, p38, p39⟩)
              | (go_at_call 17; refine (HUr.out _ bs3).mono ?_; rintro e s4 ⟨rfl, bs4, p40, p41, p42, p43, p44, p45, p46, p47, p48, p49⟩)
              | (go_at_call 19; refine (HF.out _ bs4).mono ?_; rintro e s5 ⟨fa, fc, rfl, hfa, bs5, p50, p51, p52, p53, p54, p55, p56, p57, p58, p59⟩)
              | (go_at_call 20; refine (HFr.out _ bs5).mono ?_; rintro e s6 ⟨fb, fd, rfl, hfb, bs6, bs6', p60, p61, p62, p63, p64, p65, p66, p67, p68, p69⟩)
              | (go_at_call 18; refine (HM.out _ _ _ _ _ bs6 (Rg.hid (hfa.out.below bs6')) hfb).mono ?_; rintro e s7 ⟨rfl, bs7, p70, p71, p72, p73, p74, p75, p76, p77, p78, p79⟩))
            go_wp2_with fail; go_meet
            exact ⟨rfl, bs7⟩
          case rest =>
            obtain ⟨rfl, b13⟩ := hcut
            clear HS HSr HU HUr HF HFr HM hcl hFL hFN hU hFb
            have hva13 := Rg.hid (hva12.out.below b13)
            have hvb13 := Rg.hid (hvb12.out.below b13)
            have hkC13 := Rg.hid (hkC12.below b13 hkC12.lt)
            have hkX13 := Rg.hid (hkX12.below b13 hkX12.lt)
            have hDC13 := Rg.hid (hDC12.below b13)
            have hDX13 := Rg.hid (hDX12.below b13)
            have hbw13 := Rg.hid (Rg.chain hbw12.out b13)
            have hrL13 := Rg.hid (hrL.out.below b13)
            have hrR13 := Rg.hid (hrR.out.below b13)
            replace hNN := Rg.hid hNN
            clear hva12 hvb12 hkC12 hkX12 hDC12 hDX12 hbw12 b13 hrL hrR hNM
            obtain ⟨w13, hw13⟩ : ∃ w13, w13 = wc := ⟨_, rfl⟩
            subst hw13
            go_wp2
            go_loopw [112] (fun v w4 => ∃ k : Nat, k ≤ NN ∧ v = .int .i64 k ∧ Below w13.heap.size w13 w4) (fun v _ => NN - (intOf v).toNat)
            case atStart => exact ⟨0, Nat.zero_le _, rfl, Below.refl _ _⟩
            case round =>
              obtain ⟨k, hk, rfl, hb4⟩ := hrel
              by_cases hkl : k < NN
              · have hkm : k < NM.length := by rw [← hNN.out]; exact hkl
                obtain ⟨bL, oL, rfl, hbL, hatL⟩ : ∃ b o, la = some ⟨b, o, none⟩ ∧ b < w13.heap.size ∧ Rg.At w13 b o (strE.flat NM) := by
                  rcases hrL13.out with ⟨_, h⟩ | h
                  · rw [h] at hkm; simp at hkm
                  · exact h
                obtain ⟨bR, oR, rfl, hbR, hatR⟩ : ∃ b o, ra = some ⟨b, o, none⟩ ∧ b < w13.heap.size ∧ Rg.At w13 b o (strE.flat NM) := by
                  rcases hrR13.out with ⟨_, h⟩ | h
                  · rw [h] at hkm; simp at hkm
                  · exact h
                have cL := str_at ((hatL.elem hkm).below hb4 hbL)
                have cR := str_at ((hatR.elem hkm).below hb4 hbR)
                rw [show oL + k * strE.m = oL + k by show oL + k * 1 = oL + k; omega] at cL
                rw [show oR + k * strE.m = oR + k by show oR + k * 1 = oR + k; omega] at cR
                generalize NM[k] = s at *
                have hy0 : (0 : Int) ≤ (k : Int) := by omega
                have hy1 : (k : Int) < (NN : Int) := by omega
                clear hatL hatR hkm hrL13 hrR13
                go_wp2
                go_region
                go_wp2
                go_roundw
                case rel => exact ⟨k + 1, by omega, by go_num, hb4.drew⟩
                case measure => simp [intOf]; omega
              · obtain rfl : k = NN := by omega
                obtain ⟨w4, hw4⟩ : ∃ w4, w4 = wr := ⟨_, rfl⟩
                subst hw4
                have hva4 := hva13.out.below hb4
                have hvb4 := hvb13.out.below hb4
                have hkC4 := (hkC13.out.below hb4 hkC13.out.lt)
                have hkX4 := (hkX13.out.below hb4 hkX13.out.lt)
                have hDC4 := hDC13.out.below hb4
                have hDX4 := hDX13.out.below hb4
                have hbw4 := Rg.hid (Rg.chain hbw13.out hb4)
                clear hva13 hvb13 hkC13 hkX13 hDC13 hDX13 hbw13 hb4 hrL13 hrR13 hNN
                go_upto_region 20 with fail
                obtain ⟨hva5, oA⟩ := hva4.store hDC4
                have hvb5 := hvb4.other hva4 (Ne.symm hVAB) oA
                obtain ⟨saP, snP, scP, oaP, onP, ocP, cpP, fsP, dnP, kP, hDP⟩ := hva4
                obtain ⟨saQ, snQ, scQ, oaQ, onQ, ocQ, cpQ, fsQ, dnQ, kQ, hDQ⟩ := hvb4
                have hDX5 := hDX4.only kP plainD oA
                obtain ⟨hvb6, oB⟩ := hvb5.store hDX5
                have hva6 := Rg.hid (hva5.other hvb5 hVAB oB).drew
                have hbw6 := Rg.hid ((hbw4.out.trans (oA.bel hVw)).trans (oB.bel hVwB)).drew
                replace hvb6 := Rg.hid hvb6.drew
                have x0 := hkC4.cell 0
                have x1 := hkC4.cell 1
                have x2 := hkC4.cell 2
                have x3 := hkC4.cell 3
                have x4 := hkC4.cell 4
                simp only [List.getElem?_cons_zero, List.getElem?_cons_succ] at x0 x1 x2 x3 x4
                have y0 := hkX4.cell 0
                have y1 := hkX4.cell 1
                have y2 := hkX4.cell 2
                have y3 := hkX4.cell 3
                have y4 := hkX4.cell 4
                simp only [List.getElem?_cons_zero, List.getElem?_cons_succ] at y0 y1 y2 y3 y4
                have v0 : w4.cell? ⟨VA, 0, none⟩ = some (.slice saP snP scP) := kP.cell 0
                have v1 : w4.cell? ⟨VA, 1, none⟩ = some (.slice oaP onP ocP) := kP.cell 1
                have v2 : w4.cell? ⟨VA, 2, none⟩ = some (.int .i64 cpP) := kP.cell 2
                have v3 : w4.cell? ⟨VA, 3, none⟩ = some (.int .i64 fsP) := kP.cell 3
                have v4 : w4.cell? ⟨VA, 4, none⟩ = some (.bool dnP) := kP.cell 4
                have u0' : w4.cell? ⟨VB, 0, none⟩ = some (.slice saQ snQ scQ) := kQ.cell 0
                have u1' : w4.cell? ⟨VB, 1, none⟩ = some (.slice oaQ onQ ocQ) := kQ.cell 1
                have u2' : w4.cell? ⟨VB, 2, none⟩ = some (.int .i64 cpQ) := kQ.cell 2
                have u3' : w4.cell? ⟨VB, 3, none⟩ = some (.int .i64 fsQ) := kQ.cell 3
                have u4' : w4.cell? ⟨VB, 4, none⟩ = some (.bool dnQ) := kQ.cell 4
                have vf : ∀ i, w4.frozen? ⟨VA, i, none⟩ = false := kP.thaw
                have uf : ∀ i, w4.frozen? ⟨VB, i, none⟩ = false := kQ.thaw
                obtain ⟨hnC1, hnC2⟩ := hneC
                obtain ⟨hnX1, hnX2⟩ := hneX
                clear oA oB hva5 hvb5 hDX5 hDP hDQ kP kQ hkC4 hkX4 hDC4 hDX4 hbw4
                go_region
                generalize World.drew _ = w6 at *
                clear x0 x1 x2 x3 x4 y0 y1 y2 y3 y4 v0 v1 v2 v3 v4 u0' u1' u2' u3' u4' vf uf
                go_wp2
                go_roundw
                case rel => exact ⟨i + 1, d2, by omega, by go_num, hok2, hwx, hva6, hvb6, hbw6.out⟩
                case measure => simp [intOf]; omega
      · obtain rfl : i = N := by omega
        obtain ⟨saC, snC, scC, oaC, onC, ocC, cpC, fsC, dnC, kC, hDC⟩ := hva.out
        obtain ⟨saX, snX, scX, oaX, onX, ocX, cpX, fsX, dnX, kX, hDX⟩ := hvb.out
        have hcl : Hid (∀ W, Below wr.heap.size wr W → W.cell? ⟨VA, 0, none⟩ = some (.slice saC snC scC) ∧ W.cell? ⟨VA, 1, none⟩ = some (.slice oaC onC ocC) ∧ W.cell? ⟨VA, 2, none⟩ = some (.int .i64 cpC) ∧ W.cell? ⟨VA, 3, none⟩ = some (.int .i64 fsC) ∧ W.cell? ⟨VA, 4, none⟩ = some (.bool dnC) ∧ W.cell? ⟨VB, 0, none⟩ = some (.slice saX snX scX) ∧ W.cell? ⟨VB, 1, none⟩ = some (.slice oaX onX ocX) ∧ W.cell? ⟨VB, 2, none⟩ = some (.int .i64 cpX) ∧ W.cell? ⟨VB, 3, none⟩ = some (.int .i64 fsX) ∧ W.cell? ⟨VB, 4, none⟩ = some (.bool dnX)) := fun W hW => by
          have k1 := kC.below hW kC.lt
          have k2 := kX.below hW kX.lt
          exact ⟨k1.cell 0, k1.cell 1, k1.cell 2, k1.cell 3, k1.cell 4, k2.cell 0, k2.cell 1, k2.cell 2, k2.cell 3, k2.cell 4⟩
        have HS : Hid (∀ W, Below wr.heap.size wr W → Calls Try.prog 14 #[.agg #[.slice saC snC scC, .slice oaC onC ocC, .int .i64 cpC, .int .i64 fsC, .bool dnC], .agg #[.slice saX snX scX, .slice oaX onX ocX, .int .i64 cpX, .int .i64 fsX, .bool dnX]] W fun e w' => e = .returned (.bool true) ∧ Below wr.heap.size wr w' ∧ w'.cell? ⟨VA, 0, none⟩ = some (.slice saC snC scC) ∧ w'.cell? ⟨VA, 1, none⟩ = some (.slice oaC onC ocC) ∧ w'.cell? ⟨VA, 2, none⟩ = some (.int .i64 cpC) ∧ w'.cell? ⟨VA, 3, none⟩ = some (.int .i64 fsC) ∧ w'.cell? ⟨VA, 4, none⟩ = some (.bool dnC) ∧ w'.cell? ⟨VB, 0, none⟩ = some (.slice saX snX scX) ∧ w'.cell? ⟨VB, 1, none⟩ = some (.slice oaX onX ocX) ∧ w'.cell? ⟨VB, 2, none⟩ = some (.int .i64 cpX) ∧ w'.cell? ⟨VB, 3, none⟩ = some (.int .i64 fsX) ∧ w'.cell? ⟨VB, 4, none⟩ = some (.bool dnX)) := fun W hW => by
          have := sameD_any _ _ d d W hkp.out (hDC.below hW) (hDX.below hW)
          rw [Dsk.sameD_refl] at this
          exact this.mono fun e w' ⟨h1, h4⟩ => ⟨h1, Rg.chain hW h4, hcl.out _ (Rg.chain hW h4)⟩
        have HSr : Hid (∀ W, Below wr.heap.size wr W → Calls Try.prog 15 #[.agg #[.slice saC snC scC, .slice oaC onC ocC, .int .i64 cpC, .int .i64 fsC, .bool dnC], .agg #[.slice saX snX scX, .slice oaX onX ocX, .int .i64 cpX, .int .i64 fsX, .bool dnX]] W fun e w' => e = .returned (.bool true) ∧ Below wr.heap.size wr w' ∧ w'.cell? ⟨VA, 0, none⟩ = some (.slice saC snC scC) ∧ w'.cell? ⟨VA, 1, none⟩ = some (.slice oaC onC ocC) ∧ w'.cell? ⟨VA, 2, none⟩ = some (.int .i64 cpC) ∧ w'.cell? ⟨VA, 3, none⟩ = some (.int .i64 fsC) ∧ w'.cell? ⟨VA, 4, none⟩ = some (.bool dnC) ∧ w'.cell? ⟨VB, 0, none⟩ = some (.slice saX snX scX) ∧ w'.cell? ⟨VB, 1, none⟩ = some (.slice oaX onX ocX) ∧ w'.cell? ⟨VB, 2, none⟩ = some (.int .i64 cpX) ∧ w'.cell? ⟨VB, 3, none⟩ = some (.int .i64 fsX) ∧ w'.cell? ⟨VB, 4, none⟩ = some (.bool dnX)) := fun W hW => (rsame_any _ _ d W hkp.out (hDC.below hW) (hDX.below hW)).mono fun e w' ⟨h1, h4⟩ => ⟨h1, Rg.chain hW h4, hcl.out _ (Rg.chain hW h4)⟩
        have HA2 : Hid (∀ W, Below wr.heap.size wr W → Calls Try.prog 5 #[] W fun e w' => e = .returned (.bool true) ∧ Below wr.heap.size wr w' ∧ w'.cell? ⟨VA, 0, none⟩ = some (.slice saC snC scC) ∧ w'.cell? ⟨VA, 1, none⟩ = some (.slice oaC onC ocC) ∧ w'.cell? ⟨VA, 2, none⟩ = some (.int .i64 cpC) ∧ w'.cell? ⟨VA, 3, none⟩ = some (.int .i64 fsC) ∧ w'.cell? ⟨VA, 4, none⟩ = some (.bool dnC) ∧ w'.cell? ⟨VB, 0, none⟩ = some (.slice saX snX scX) ∧ w'.cell? ⟨VB, 1, none⟩ = some (.slice oaX onX ocX) ∧ w'.cell? ⟨VB, 2, none⟩ = some (.int .i64 cpX) ∧ w'.cell? ⟨VB, 3, none⟩ = some (.int .i64 fsX) ∧ w'.cell? ⟨VB, 4, none⟩ = some (.bool dnX)) := fun W hW => (awake_any W).mono fun e w' ⟨h1, h4⟩ => ⟨h1, Rg.chain hW h4, hcl.out _ (Rg.chain hW h4)⟩
        obtain ⟨z0, z1, z2, z3, z4, z5, z6, z7, z8, z9⟩ := hcl.out wr (Below.refl _ _)
        clear hcl kC kX hDC hDX hkp hwt hva hvb hrow hdat HA hN hfit
        go_upto_region 22 with fail
        go_region_held3 (fun w' => w'.cell? ⟨VA, 0, none⟩ = some (.slice saC snC scC) ∧ w'.cell? ⟨VA, 1, none⟩ = some (.slice oaC onC ocC) ∧ w'.cell? ⟨VA, 2, none⟩ = some (.int .i64 cpC) ∧ w'.cell? ⟨VA, 3, none⟩ = some (.int .i64 fsC) ∧ w'.cell? ⟨VA, 4, none⟩ = some (.bool dnC) ∧ w'.cell? ⟨VB, 0, none⟩ = some (.slice saX snX scX) ∧ w'.cell? ⟨VB, 1, none⟩ = some (.slice oaX onX ocX) ∧ w'.cell? ⟨VB, 2, none⟩ = some (.int .i64 cpX) ∧ w'.cell? ⟨VB, 3, none⟩ = some (.int .i64 fsX) ∧ w'.cell? ⟨VB, 4, none⟩ = some (.bool dnX)) (go_keep) (first
          | (go_at_call 14; refine (HS.out _ ?_).mono ?_; (first | exact Below.refl _ _ | exact (Below.refl _ _).drew); rintro e s1 ⟨rfl, bs1, p10, p11, p12, p13, p14, p15, p16, p17, p18, p19⟩)
          | (go_at_call 15; refine (HSr.out _ bs1).mono ?_; rintro e s2 ⟨rfl, bs2, p20, p21, p22, p23, p24, p25, p26, p27, p28, p29⟩)
          | (go_at_call 5; refine (HA2.out _ bs2).mono ?_; rintro e s3 ⟨rfl, bs3, p30, p31, p32, p33, p34, p35, p36, p37, p38, p39⟩))
        have hfin := Rg.hid (Rg.chain hbw bs3)
        go_wp2
        go_ret
        exact ⟨rfl, hfin.out⟩
end Go.Proofs.Ytempiajepomajaa
