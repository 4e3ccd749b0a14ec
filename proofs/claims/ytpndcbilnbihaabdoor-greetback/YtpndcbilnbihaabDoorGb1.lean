/-
  Layer 9: the walk of GreetBack.
-/
import Derived.Test.YtpndcbilnbihaabDoorMathGb
namespace Go.Proofs.YtpndcbilnbihaabDoor
open Go.RowKit

theorem long_boxed3 (y s x : ByteArray) (n : Int) (w : World) (L : Bool) (hL : ([y, s, x].any fun s => decide (3000 < s.size)) = L) :
    Calls Tryd.prog 4 #[.slice (some ⟨w.heap.size + 1, 0, none⟩) 3 3] ((w.alloc (.cells #[.string y, .int .i64 n] 23)).alloc (.cells #[.string y, .string s, .string x] 9)) fun e w' => e = .returned (.bool L) ∧ Below (w.alloc (.cells #[.string y, .int .i64 n] 23)).heap.size (w.alloc (.cells #[.string y, .int .i64 n] 23)) w' := by
  have h := long_list [y, s, x] (.cells #[.string y, .string s, .string x] 9) (w.alloc (.cells #[.string y, .int .i64 n] 23)) (by simp) (MapKept.heap_alloc _ _).1 L hL
  have e : (w.alloc (.cells #[.string y, .int .i64 n] 23)).heap.size = w.heap.size + 1 := by simp
  rw [e] at h ⊢
  exact h
theorem neq_call (a : ByteArray) (m : Int) (w : World) : (binOp .neq 23 (.agg #[.string a, .int .i64 m]) (.agg #[.string a, .int .i64 m])).run Tryd.prog w = .ok (.bool false) w := by simp [go_sem]
theorem small_3 {l : List ByteArray} (h : (l.any fun s => decide (3000 < s.size)) = false) : ∀ s ∈ l, s.size ≤ 3000 := by
  intro s hs
  rw [List.any_eq_false] at h
  have := h s hs
  simpa using this

theorem iwrap_byte (c : UInt8) : IntKind.i64.wrap (c.toNat : Int) = (c.toNat : Int) := by
  have := c.toNat_lt; rw [IntKind.wrap_i64]; omega
set_option maxHeartbeats 8000000 in
set_option maxRecDepth 100000 in
theorem back_walk (y : ByteArray) (hy : y.size ≤ maxLen) (n : Int) (n0 : -9223372036854775808 ≤ n) (n1 : n ≤ 9223372036854775807) (s : ByteArray) (hs : s.size ≤ maxLen) (x : ByteArray) (_hx : x.size ≤ maxLen) (w : World) (htab : Lib.TabIs Tryd.prog w "internal/strconv.uint64pow10" .u64 Lib.pow10Tab) (hm : MxIn w) :
    Calls Tryd.prog 3 #[.agg #[.string y, .int .i64 n], .string s, .string x] w fun e w' => e = .returned (.bool true) ∧ Below w.heap.size w w' := by
  have HA : Hid (∀ W, Calls Tryd.prog 5 #[] W fun e w' => e = .returned (.bool true) ∧ Below W.heap.size W w') := awake_any
  have b0 := Rg.al1 w (.cells #[.string y, .int .i64 n] 23)
  have kB : Hid (Rg.Bk w.heap.size [.string y, .int .i64 n] 23 (w.alloc (.cells #[.string y, .int .i64 n] 23))) := Rg.Bk.new rfl
  cases hb : ([y, s, x].any fun s => decide (3000 < s.size)) with
  | true =>
    have HL1 := Rg.hid (long_boxed3 y s x n w true hb)
    clear hb htab hm kB
    go_enter Tryd.func3, Tryd.ntmps3
    go_wp2_with (go_at_call 4; refine HL1.out.mono ?_; rintro e w1 ⟨rfl, b1⟩)
    go_wp2_with (go_at_call 5; refine (HA.out _).mono ?_; rintro e w2 ⟨rfl, b2⟩)
    go_ret
    have B1 := b0.trans (b1.mono b0.size)
    exact ⟨rfl, B1.trans (b2.mono B1.size)⟩
  | false =>
    have hsm := small_3 hb
    have ss := hsm s (by simp)
    have sx := hsm x (by simp)
    have HL1 := Rg.hid (long_boxed3 y s x n w false hb)
    have hoff : (Hid (0 < s.size) ∧ Hid (∀ W, Calls Tryd.prog 10 #[.string s] W fun e w' => e = .returned (.tuple #[.string (⟨#[80]⟩ ++ s), .int .i64 0]) ∧ Below W.heap.size W w') ∧ Hid (∀ W, Calls Tryd.prog 11 #[.string (⟨#[80]⟩ ++ s)] W fun e w' => e = .returned (.tuple #[.string s, .int .i64 0]) ∧ Below W.heap.size W w') ∧ Hid (∀ (h : 0 < s.size) W, Calls Tryd.prog 12 #[.string s, .string s] W fun e w' => e = .returned (.int .i64 (IntKind.i64.wrap (s[0].toNat : Int))) ∧ Below W.heap.size W w')) ∨ (∃ oe : Int, (oe == 0) = false ∧ Hid (∀ W, Calls Tryd.prog 10 #[.string s] W fun e w' => e = .returned (.tuple #[.string ⟨#[]⟩, .int .i64 oe]) ∧ Below W.heap.size W w')) := by
      cases hl : Gr.lets s.data.toList with
      | true =>
        refine .inl ⟨Gr.lets_pos hl, fun W => ?_, fun W => ?_, fun h W => ?_⟩
        · have := offer_any s W ss
          unfold Gr.offer at this
          rw [if_pos hl] at this
          exact this
        · have := poffer_any (⟨#[80]⟩ ++ s) W
          rw [Gr.offer_back s hl] at this
          exact this
        · have := choose_any s s W
          rw [Gr.choose_back s hl h, ← iwrap_byte s[0]] at this
          exact this
      | false =>
        refine .inr ⟨1, by decide, fun W => ?_⟩
        have := offer_any s W ss
        unfold Gr.offer at this
        rw [if_neg (by simp [hl])] at this
        exact this
    have hcall : (∃ tx : ByteArray, Hid (∀ W, Below w.heap.size w W → Calls Tryd.prog 8 #[.agg #[.string y, .int .i64 n]] W fun e w' => e = .returned (.tuple #[.string tx, .int .i64 0]) ∧ Below W.heap.size W w') ∧ Hid (∀ W, Below w.heap.size w W → Calls Tryd.prog 9 #[.string tx] W fun e w' => e = .returned (.tuple #[.agg #[.string y, .int .i64 n], .int .i64 0]) ∧ Below W.heap.size W w')) ∨ (∃ ce : Int, (ce == 0) = false ∧ Hid (∀ W, Below w.heap.size w W → Calls Tryd.prog 8 #[.agg #[.string y, .int .i64 n]] W fun e w' => e = .returned (.tuple #[.string ⟨#[]⟩, .int .i64 ce]) ∧ Below W.heap.size W w')) := by
      have HT := fun W (hW : Below w.heap.size w W) => callText_any y n hy n0 n1 W (tab_below htab hW)
      unfold Gr.callT at HT
      cases hsy : Nam.system y.data.toList with
      | false => exact .inr ⟨11, by decide, fun W hW => by have := HT W hW; rw [if_pos hsy] at this; exact this⟩
      | true =>
        have hns : ¬ Nam.system y.data.toList = false := by rw [hsy]; decide
        by_cases hn : 0 ≤ n ∧ n ≤ 1099511627776
        · obtain ⟨N, rfl⟩ := Int.eq_ofNat_of_zero_le hn.1
          refine .inl ⟨_, fun W hW => by have := HT W hW; rw [if_neg hns, if_neg (fun h => h hn)] at this; exact this, fun W hW => ?_⟩
          have hz := itoa_small (N : Int) n0 n1
          have hz7 := Gr.sys_small hsy
          have hyl : y.data.toList.length = y.size := by rw [Array.length_toList]; rfl
          have := pcall_any (⟨#[83]⟩ ++ y ++ ⟨#[32, 45, 81]⟩ ++ ⟨(Lib.itoa (N : Int)).toArray⟩) W (by
            simp only [ByteArray.size_append]
            have e1 : (⟨#[83]⟩ : ByteArray).size = 1 := rfl
            have e2 : (⟨#[32, 45, 81]⟩ : ByteArray).size = 3 := rfl
            omega) (hm.below hW)
          rw [Gr.call_back y N hsy (by omega)] at this
          exact this
        · exact .inr ⟨1, by decide, fun W hW => by have := HT W hW; rw [if_neg hns, if_pos hn] at this; exact this⟩
    have hwrap : (∃ wv : ByteArray, wv.size ≤ 302 ∧ Hid (∀ W, Calls Tryd.prog 6 #[.string s] W fun e w' => e = .returned (.tuple #[.string wv, .int .i64 0]) ∧ W = w') ∧ Hid (x.data.toList.any Gr.bad = false → ∀ W, Calls Tryd.prog 7 #[.string (x ++ wv ++ x)] W fun e w' => e = .returned (.tuple #[.string s, .string x, .bool true]) ∧ Below W.heap.size W w')) ∨ (∃ we : Int, (we == 0) = false ∧ Hid (∀ W, Calls Tryd.prog 6 #[.string s] W fun e w' => e = .returned (.tuple #[.string ⟨#[]⟩, .int .i64 we]) ∧ W = w')) := by
      have HW := fun W => wrap_any s W hs
      by_cases h3 : 300 < s.size
      · exact .inr ⟨5, by decide, fun W => by have := HW W; rw [Gr.wrap_long h3] at this; exact this.mono fun e w' h => ⟨h.1, h.2.symm⟩⟩
      · cases hbd : s.data.toList.any Gr.bad with
        | true => exact .inr ⟨3, by decide, fun W => by have := HW W; rw [Gr.wrap_form h3 hbd] at this; exact this.mono fun e w' h => ⟨h.1, h.2.symm⟩⟩
        | false =>
          have hz : (⟨#[16]⟩ ++ s ++ ⟨#[0]⟩ : ByteArray).size ≤ 302 := by
            simp only [ByteArray.size_append]
            have e1 : (⟨#[16]⟩ : ByteArray).size = 1 := rfl
            have e2 : (⟨#[0]⟩ : ByteArray).size = 1 := rfl
            omega
          refine .inl ⟨_, hz, fun W => by have := HW W; rw [Gr.wrap_ok h3 hbd] at this; exact this.mono fun e w' h => ⟨h.1, h.2.symm⟩, fun hxb W => ?_⟩
          have := scan_any (x ++ (⟨#[16]⟩ ++ s ++ ⟨#[0]⟩) ++ x) W (by rw [ByteArray.size_append, ByteArray.size_append]; omega)
          rw [Gr.scan_found s x (by omega) hbd hxb] at this
          exact this
    replace hoff := Rg.hid hoff
    replace hcall := Rg.hid hcall
    replace hwrap := Rg.hid hwrap
    clear hb hsm htab hm hs
    go_enter Tryd.func3, Tryd.ntmps3
    go_upto_region 3 with (go_at_call 4; refine HL1.out.mono ?_; rintro e w1 ⟨rfl, b1⟩)
    have q1 := Rg.hid (b0.trans (b1.mono b0.size))
    have k1 := Rg.hid (kB.out.below b1 kB.out.lt)
    clear HL1 b0 b1 kB
    go_wp2
    go_loop [30] (fun iv => ∃ k : Nat, k ≤ x.size ∧ iv = .int .i64 k ∧ Hid ((x.data.toList.take k).any Gr.bad = false)) (fun iv => x.size - (intOf iv).toNat)
    case atStart => exact ⟨0, Nat.zero_le _, rfl, rfl⟩
    case round =>
      obtain ⟨k, hk, rfl, hall⟩ := hrel
      by_cases hlt : k < x.size
      · by_cases h0 : (x[k].toNat : Int) = 0
        · have d0 : ((x[k].toNat : Int) == 0) = true := by rw [beq_iff_eq]; exact h0
          go_wp2_with (go_at_call 5; refine (HA.out _).mono ?_; rintro e w2 ⟨rfl, b2⟩)
          go_ret
          exact ⟨rfl, q1.out.trans (b2.mono q1.out.size)⟩
        · have d0 : ((x[k].toNat : Int) == 0) = false := by rw [beq_eq_false_iff_ne]; exact h0
          by_cases h1 : (x[k].toNat : Int) = 16
          · have d1 : ((x[k].toNat : Int) == 16) = true := by rw [beq_iff_eq]; exact h1
            go_wp2_with (go_at_call 5; refine (HA.out _).mono ?_; rintro e w2 ⟨rfl, b2⟩)
            go_ret
            exact ⟨rfl, q1.out.trans (b2.mono q1.out.size)⟩
          · have d1 : ((x[k].toNat : Int) == 16) = false := by rw [beq_eq_false_iff_ne]; exact h1
            have hn2 : Hid ((x.data.toList.take (k + 1)).any Gr.bad = false) := Gr.any_snoc x k hlt hall.out (Gr.bad_not h0 h1)
            clear hall
            go_wp2
            go_round
            case rel => exact ⟨k + 1, by omega, by go_num, hn2⟩
            case measure => simp [intOf]; omega
      · have hxb : x.data.toList.any Gr.bad = false := by have := hall.out; rwa [Oct.take_all x k (by omega)] at this
        have hwr := hwrap.out
        have hcall := hcall.out
        have hoff := hoff.out
        clear hall hwrap
        rcases hwr with ⟨wv, hz, HW, HSC⟩ | ⟨we, we0, HW⟩
        · have HS2 := Rg.hid (HSC.out hxb)
          clear HSC hxb
          have z1 : (x ++ wv).size ≤ 3302 := by rw [ByteArray.size_append]; omega
          go_upto_region 14 with (first | (go_at_call 6; refine (HW.out _).mono ?_; rintro e w' ⟨rfl, rfl⟩) | (go_at_call 7; refine (HS2.out _).mono ?_; rintro e w2 ⟨rfl, b2⟩))
          have q2 := Rg.hid (q1.out.trans (b2.mono q1.out.size))
          have k2 := Rg.hid (k1.out.below b2 k1.out.lt)
          clear b2 q1 k1 HW HS2
          have x0 : w2.cell? ⟨w.heap.size, 0, none⟩ = some (.string y) := k2.out.cell 0
          have x1 : w2.cell? ⟨w.heap.size, 1, none⟩ = some (.int .i64 n) := k2.out.cell 1
          rcases hcall with ⟨tx, HCT, HPC⟩ | ⟨ce0, ce1, HCT⟩
          · go_upto_region 16 with (go_at_call 8; refine (HCT.out _ q2.out).mono ?_; rintro e wc1 ⟨rfl, bc1⟩)
            have qc1 := Rg.hid (q2.out.trans (bc1.mono q2.out.size))
            have kc1 := Rg.hid (k2.out.below bc1 k2.out.lt)
            clear bc1 x0 x1 q2 k2 HCT
            go_upto_region 17 with (go_at_call 9; refine (HPC.out _ qc1.out).mono ?_; rintro e wc2 ⟨rfl, bc2⟩)
            have qc2 := qc1.out.trans (bc2.mono qc1.out.size)
            have kV : Hid (Rg.Bk wc2.heap.size [.string y, .int .i64 n] 23 (wc2.alloc (.cells #[.string y, .int .i64 n] 23))) := Rg.Bk.new rfl
            have qc3 := Rg.hid (qc2.alloc qc2.size (.cells #[.string y, .int .i64 n] 23))
            have kc3 := Rg.hid ((kc1.out.below bc2 kc1.out.lt).old (.cells #[.string y, .int .i64 n] 23))
            clear bc2 qc1 qc2 kc1 HPC
            generalize World.alloc _ _ = wc3 at *
            generalize wc2.heap.size = V at *
            have x0 : wc3.cell? ⟨w.heap.size, 0, none⟩ = some (.string y) := kc3.out.cell 0
            have x1 : wc3.cell? ⟨w.heap.size, 1, none⟩ = some (.int .i64 n) := kc3.out.cell 1
            have v0 : wc3.cell? ⟨V, 0, none⟩ = some (.string y) := kV.out.cell 0
            have v1 : wc3.cell? ⟨V, 1, none⟩ = some (.int .i64 n) := kV.out.cell 1
            have NE : ∀ W, (binOp .neq 23 (.agg #[.string y, .int .i64 n]) (.agg #[.string y, .int .i64 n])).run Tryd.prog W = .ok (.bool false) W := neq_call y n
            go_upto_region 19 with fail
            clear x0 x1 v0 v1 NE kV kc3
            rcases hoff with ⟨hlets, HO, HPO, HCHx⟩ | ⟨oe0, oe1, HO⟩
            · have hl := hlets.out
              have HCH := Rg.hid (HCHx.out hl)
              go_upto_region 21 with (go_at_call 10; refine (HO.out _).mono ?_; rintro e wo1 ⟨rfl, bo1⟩)
              have qo1 := Rg.hid (qc3.out.trans (bo1.mono qc3.out.size))
              clear bo1
              go_upto_region 22 with (go_at_call 11; refine (HPO.out _).mono ?_; rintro e wo2 ⟨rfl, bo2⟩)
              have qo2 := Rg.hid (qo1.out.trans (bo2.mono qo1.out.size))
              clear bo2 qo1 HCHx
              go_region_held3 (Rg.Free) (exact Rg.free _) (first
                | (go_at_call 12; refine (HCH.out _).mono ?_; rintro e wo3 ⟨rfl, bo3⟩))
              all_goals
                go_wp2_with (go_at_call 5; refine (HA.out _).mono ?_; rintro e wo4 ⟨rfl, bo4⟩)
                go_ret
                have AA : Below w.heap.size w wo3 := by first | exact qo2.out.trans (bo3.mono qo2.out.size) | exact qo2.out.drew.trans (bo3.mono qo2.out.drew.size)
                exact ⟨rfl, by first | exact AA.trans (bo4.mono AA.size) | exact AA.drew.trans (bo4.mono AA.drew.size)⟩
            · go_wp2_with (first | (go_at_call 10; refine (HO.out _).mono ?_; rintro e wo1 ⟨rfl, bo1⟩) | (go_at_call 5; refine (HA.out _).mono ?_; rintro e wo2 ⟨rfl, bo2⟩))
              go_ret
              have qo1 := qc3.out.trans (bo1.mono qc3.out.size)
              exact ⟨rfl, qo1.trans (bo2.mono qo1.size)⟩
          · go_upto_region 19 with (go_at_call 8; refine (HCT.out _ q2.out).mono ?_; rintro e wc1 ⟨rfl, bc1⟩)
            have qc3 := Rg.hid (q2.out.trans (bc1.mono q2.out.size))
            clear bc1 x0 x1 q2 k2 HCT
            rcases hoff with ⟨hlets, HO, HPO, HCHx⟩ | ⟨oe0, oe1, HO⟩
            · have hl := hlets.out
              have HCH := Rg.hid (HCHx.out hl)
              go_upto_region 21 with (go_at_call 10; refine (HO.out _).mono ?_; rintro e wo1 ⟨rfl, bo1⟩)
              have qo1 := Rg.hid (qc3.out.trans (bo1.mono qc3.out.size))
              clear bo1
              go_upto_region 22 with (go_at_call 11; refine (HPO.out _).mono ?_; rintro e wo2 ⟨rfl, bo2⟩)
              have qo2 := Rg.hid (qo1.out.trans (bo2.mono qo1.out.size))
              clear bo2 qo1 HCHx
              go_region_held3 (Rg.Free) (exact Rg.free _) (first
                | (go_at_call 12; refine (HCH.out _).mono ?_; rintro e wo3 ⟨rfl, bo3⟩))
              all_goals
                go_wp2_with (go_at_call 5; refine (HA.out _).mono ?_; rintro e wo4 ⟨rfl, bo4⟩)
                go_ret
                have AA : Below w.heap.size w wo3 := by first | exact qo2.out.trans (bo3.mono qo2.out.size) | exact qo2.out.drew.trans (bo3.mono qo2.out.drew.size)
                exact ⟨rfl, by first | exact AA.trans (bo4.mono AA.size) | exact AA.drew.trans (bo4.mono AA.drew.size)⟩
            · go_wp2_with (first | (go_at_call 10; refine (HO.out _).mono ?_; rintro e wo1 ⟨rfl, bo1⟩) | (go_at_call 5; refine (HA.out _).mono ?_; rintro e wo2 ⟨rfl, bo2⟩))
              go_ret
              have qo1 := qc3.out.trans (bo1.mono qc3.out.size)
              exact ⟨rfl, qo1.trans (bo2.mono qo1.size)⟩
        · clear hxb
          go_upto_region 14 with (go_at_call 6; refine (HW.out _).mono ?_; rintro e w' ⟨rfl, rfl⟩)
          clear HW
          have x0 : w1.cell? ⟨w.heap.size, 0, none⟩ = some (.string y) := k1.out.cell 0
          have x1 : w1.cell? ⟨w.heap.size, 1, none⟩ = some (.int .i64 n) := k1.out.cell 1
          rcases hcall with ⟨tx, HCT, HPC⟩ | ⟨ce0, ce1, HCT⟩
          · go_upto_region 16 with (go_at_call 8; refine (HCT.out _ q1.out).mono ?_; rintro e wc1 ⟨rfl, bc1⟩)
            have qc1 := Rg.hid (q1.out.trans (bc1.mono q1.out.size))
            have kc1 := Rg.hid (k1.out.below bc1 k1.out.lt)
            clear bc1 x0 x1 q1 k1 HCT
            go_upto_region 17 with (go_at_call 9; refine (HPC.out _ qc1.out).mono ?_; rintro e wc2 ⟨rfl, bc2⟩)
            have qc2 := qc1.out.trans (bc2.mono qc1.out.size)
            have kV : Hid (Rg.Bk wc2.heap.size [.string y, .int .i64 n] 23 (wc2.alloc (.cells #[.string y, .int .i64 n] 23))) := Rg.Bk.new rfl
            have qc3 := Rg.hid (qc2.alloc qc2.size (.cells #[.string y, .int .i64 n] 23))
            have kc3 := Rg.hid ((kc1.out.below bc2 kc1.out.lt).old (.cells #[.string y, .int .i64 n] 23))
            clear bc2 qc1 qc2 kc1 HPC
            generalize World.alloc _ _ = wc3 at *
            generalize wc2.heap.size = V at *
            have x0 : wc3.cell? ⟨w.heap.size, 0, none⟩ = some (.string y) := kc3.out.cell 0
            have x1 : wc3.cell? ⟨w.heap.size, 1, none⟩ = some (.int .i64 n) := kc3.out.cell 1
            have v0 : wc3.cell? ⟨V, 0, none⟩ = some (.string y) := kV.out.cell 0
            have v1 : wc3.cell? ⟨V, 1, none⟩ = some (.int .i64 n) := kV.out.cell 1
            have NE : ∀ W, (binOp .neq 23 (.agg #[.string y, .int .i64 n]) (.agg #[.string y, .int .i64 n])).run Tryd.prog W = .ok (.bool false) W := neq_call y n
            go_upto_region 19 with fail
            clear x0 x1 v0 v1 NE kV kc3
            rcases hoff with ⟨hlets, HO, HPO, HCHx⟩ | ⟨oe0, oe1, HO⟩
            · have hl := hlets.out
              have HCH := Rg.hid (HCHx.out hl)
              go_upto_region 21 with (go_at_call 10; refine (HO.out _).mono ?_; rintro e wo1 ⟨rfl, bo1⟩)
              have qo1 := Rg.hid (qc3.out.trans (bo1.mono qc3.out.size))
              clear bo1
              go_upto_region 22 with (go_at_call 11; refine (HPO.out _).mono ?_; rintro e wo2 ⟨rfl, bo2⟩)
              have qo2 := Rg.hid (qo1.out.trans (bo2.mono qo1.out.size))
              clear bo2 qo1 HCHx
              go_region_held3 (Rg.Free) (exact Rg.free _) (first
                | (go_at_call 12; refine (HCH.out _).mono ?_; rintro e wo3 ⟨rfl, bo3⟩))
              all_goals
                go_wp2_with (go_at_call 5; refine (HA.out _).mono ?_; rintro e wo4 ⟨rfl, bo4⟩)
                go_ret
                have AA : Below w.heap.size w wo3 := by first | exact qo2.out.trans (bo3.mono qo2.out.size) | exact qo2.out.drew.trans (bo3.mono qo2.out.drew.size)
                exact ⟨rfl, by first | exact AA.trans (bo4.mono AA.size) | exact AA.drew.trans (bo4.mono AA.drew.size)⟩
            · go_wp2_with (first | (go_at_call 10; refine (HO.out _).mono ?_; rintro e wo1 ⟨rfl, bo1⟩) | (go_at_call 5; refine (HA.out _).mono ?_; rintro e wo2 ⟨rfl, bo2⟩))
              go_ret
              have qo1 := qc3.out.trans (bo1.mono qc3.out.size)
              exact ⟨rfl, qo1.trans (bo2.mono qo1.size)⟩
          · go_upto_region 19 with (go_at_call 8; refine (HCT.out _ q1.out).mono ?_; rintro e wc1 ⟨rfl, bc1⟩)
            have qc3 := Rg.hid (q1.out.trans (bc1.mono q1.out.size))
            clear bc1 x0 x1 q1 k1 HCT
            rcases hoff with ⟨hlets, HO, HPO, HCHx⟩ | ⟨oe0, oe1, HO⟩
            · have hl := hlets.out
              have HCH := Rg.hid (HCHx.out hl)
              go_upto_region 21 with (go_at_call 10; refine (HO.out _).mono ?_; rintro e wo1 ⟨rfl, bo1⟩)
              have qo1 := Rg.hid (qc3.out.trans (bo1.mono qc3.out.size))
              clear bo1
              go_upto_region 22 with (go_at_call 11; refine (HPO.out _).mono ?_; rintro e wo2 ⟨rfl, bo2⟩)
              have qo2 := Rg.hid (qo1.out.trans (bo2.mono qo1.out.size))
              clear bo2 qo1 HCHx
              go_region_held3 (Rg.Free) (exact Rg.free _) (first
                | (go_at_call 12; refine (HCH.out _).mono ?_; rintro e wo3 ⟨rfl, bo3⟩))
              all_goals
                go_wp2_with (go_at_call 5; refine (HA.out _).mono ?_; rintro e wo4 ⟨rfl, bo4⟩)
                go_ret
                have AA : Below w.heap.size w wo3 := by first | exact qo2.out.trans (bo3.mono qo2.out.size) | exact qo2.out.drew.trans (bo3.mono qo2.out.drew.size)
                exact ⟨rfl, by first | exact AA.trans (bo4.mono AA.size) | exact AA.drew.trans (bo4.mono AA.drew.size)⟩
            · go_wp2_with (first | (go_at_call 10; refine (HO.out _).mono ?_; rintro e wo1 ⟨rfl, bo1⟩) | (go_at_call 5; refine (HA.out _).mono ?_; rintro e wo2 ⟨rfl, bo2⟩))
              go_ret
              have qo1 := qc3.out.trans (bo1.mono qc3.out.size)
              exact ⟨rfl, qo1.trans (bo2.mono qo1.size)⟩
end Go.Proofs.YtpndcbilnbihaabDoor
