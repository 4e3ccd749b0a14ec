/-
  Walks of the laws of layer 12: IframeTurned, some bytes of the data.
-/
import Derived.Test.YtghelhcmecmldaaIfG
namespace Go.Proofs.Ytghelhcmecmldaa
open Go.RowKit
namespace If
theorem rng {K j m R Q X : Nat} (hQ : Q = K + j) (hlt : j < m) (hmR : K + m ≤ R) (hRX : R ≤ X) (hX : X ≤ 5000) :
    wrap64 ((K : Int) + (j : Int)) = (Q : Int) ∧ IntKind.i64.wrap ((K : Int) + (j : Int)) = (Q : Int) ∧ Q < R ∧ (Q : Int) < (R : Int) ∧ Q < X ∧ (Q : Int) < (X : Int) := by
  refine ⟨by unfold wrap64; omega, by rw [IntKind.wrap_i64]; omega, by omega, by omega, by omega, by omega⟩
theorem sumR {K j R X : Nat} (h : K + j = R) (hRX : R ≤ X) (hX : X ≤ 5000) : wrap64 ((K : Int) + (j : Int)) = (R : Int) ∧ IntKind.i64.wrap ((K : Int) + (j : Int)) = (R : Int) := by
  refine ⟨by unfold wrap64; omega, by rw [IntKind.wrap_i64]; omega⟩
theorem stop {K j R Q X : Nat} (hQ : Q = K + j) (h : K + j = R) (hRX : R ≤ X) (hX : X ≤ 5000) : wrap64 ((K : Int) + (j : Int)) = (Q : Int) ∧ IntKind.i64.wrap ((K : Int) + (j : Int)) = (Q : Int) ∧ decide ((Q : Int) < (R : Int)) = false ∧ decide (Q < R) = false := by
  refine ⟨by unfold wrap64; omega, by rw [IntKind.wrap_i64]; omega, decide_eq_false (by omega), decide_eq_false (by omega)⟩
theorem end2 {j K R : Nat} (h : j = 4 ∨ K + j = R) (h4 : ¬ j = 4) : K + j = R := by omega
theorem end3 {j K R : Nat} (h : K + j = R) (r : K < R) (hj : j ≤ 4) (h4 : ¬ j = 4) : j = 1 ∨ j = 2 ∨ j = 3 := by omega
theorem lt4 {j m : Nat} (hj : j ≤ m) (hm : m ≤ 4) (h : ¬ j = 4) : decide ((j : Int) < 4) = true := by simp; omega
theorem meas {j m : Nat} (h : j < m) : m - (intOf (.int .i64 ((j + 1 : Nat) : Int))).toNat < m - (intOf (.int .i64 (j : Int))).toNat := by simp [intOf]; omega
end If
set_option linter.unusedVariables false in
set_option maxHeartbeats 4000000 in
set_option maxRecDepth 100000 in
theorem iturn_data_true (k n a c : Int) (b : Bool) (p q : Int) (d : ByteArray) (w : World) (bw : Below w.heap.size w (w.alloc (.cells #[.int .i64 k, .int .i64 n, .int .i64 a, .int .i64 c, .bool b, .string d] 23))) (kw : Rg.Bk w.heap.size [.int .i64 k, .int .i64 n, .int .i64 a, .int .i64 c, .bool b, .string d] 23 (w.alloc (.cells #[.int .i64 k, .int .i64 n, .int .i64 a, .int .i64 c, .bool b, .string d] 23))) (HA : Hid (∀ W, Below w.heap.size w W → Rg.Bk w.heap.size [.int .i64 k, .int .i64 n, .int .i64 a, .int .i64 c, .bool b, .string d] 23 W → Calls Try.prog 9 #[] W fun e w' => e = .returned (.bool true) ∧ Below w.heap.size w w' ∧ Rg.Bk w.heap.size [.int .i64 k, .int .i64 n, .int .i64 a, .int .i64 c, .bool b, .string d] 23 w'))
    (q1 : decide ((5000 : Int) < (d.size : Int)) = false) (X : ByteArray) (U K R : Nat) (u1 : IntKind.u64.wrap p = (U : Int)) (r1 : wrap64 (6 + (d.size : Int)) = (R : Int)) (r2 : IntKind.i64.wrap (6 + (d.size : Int)) = (R : Int)) (r3 : 6 + (d.size : Int) = (R : Int)) (r4 : IntKind.u64.wrap (R : Int) = (R : Int)) (r5 : (U : Int) % (R : Int) = (K : Int)) (r6 : (U : Int).tmod (R : Int) = (K : Int)) (r7 : K < R) (r8 : (K : Int) < (R : Int)) (r9 : R ≤ 5006) (r0 : ¬ R = 0) (hK : decide ((K : Int) < 6) = false) (hK2 : decide ((6 : Int) ≤ (K : Int)) = true) (m : Nat) (hm4 : m ≤ 4) (hmR : K + m ≤ R) (hend : m = 4 ∨ K + m = R) (hRX : R ≤ X.size) (u6 : X.size ≤ 5000)
    (y : Nat → UInt8) (v0 : IntKind.u8.wrap q = ((y 0).toNat : Int)) (v0' : IntKind.u8.wrap (q / 1) = ((y 0).toNat : Int)) (v1 : IntKind.u8.wrap (q / 256) = ((y 1).toNat : Int)) (v2 : IntKind.u8.wrap (q / 65536) = ((y 2).toNat : Int)) (v3 : IntKind.u8.wrap (q / 16777216) = ((y 3).toNat : Int))
    (Z : ByteArray) (hZL : Hid ((⟨(If.tn X.data.toList K y m).toArray⟩ : ByteArray) = Z)) (k2 n2 a2 c2 : Int) (b2 : Bool) (d2 : ByteArray) (N : Nat) (hZ : (Z.toList == X.toList) = true)
    (HW : Hid (∀ W, Below w.heap.size w W → Rg.Bk w.heap.size [.int .i64 k, .int .i64 n, .int .i64 a, .int .i64 c, .bool b, .string d] 23 W → Calls Try.prog 10 #[.agg #[.int .i64 k, .int .i64 n, .int .i64 a, .int .i64 c, .bool b, .string d]] W fun e w' => e = .returned (.tuple #[.string X, .int .i64 0]) ∧ Below w.heap.size w w' ∧ Rg.Bk w.heap.size [.int .i64 k, .int .i64 n, .int .i64 a, .int .i64 c, .bool b, .string d] 23 w'))
    (HR : Hid (∀ W, Calls Try.prog 12 #[.string Z] W fun e w' => e = .returned (.tuple #[.agg #[.int .i64 k2, .int .i64 n2, .int .i64 a2, .int .i64 c2, .bool b2, .string d2], .int .i64 N, .int .i64 0]) ∧ Below W.heap.size W w'))
    (HB : Hid (∀ W, Calls Try.prog 9 #[] W fun e w' => e = .returned (.bool true) ∧ Below W.heap.size W w')) :
    Calls Try.prog 8 #[.agg #[.int .i64 k, .int .i64 n, .int .i64 a, .int .i64 c, .bool b, .string d], .int .i64 p, .int .i64 q] w fun e w' => e = .returned (.bool true) ∧ Below w.heap.size w w' := by
  go_enter Try.func8, Try.ntmps8
  go_upto_region 4 with (go_at_call 10; (first | with_reducible refine (HW.out _ (by first | assumption | exact If.more (by assumption) _) (by first | assumption | exact Rg.Bk.old (by assumption) _)).mono ?_); rintro e w' ⟨rfl, b', k'⟩; have c' := k'.cell; have z' := k'.lt)
  have hcv := run_bytes_of_string (P := Try.prog) w' 9 39 5 X Try.underlying9 Try.underlying39 Try.underlying5
  have hrow := bytesRow_eq X (grownCap w' X.size 0 5)
  rw [hrow, rowOf_size, Array.length_toList] at hcv
  generalize grownCap w' X.size 0 5 = cap at *
  generalize cap - X.size = zz at *
  clear hrow c' z'
  go_upto_region 5 with fail
  clear hcv
  have hr0 : RowIn (w'.alloc (.cells (rowOf X.data.toList zz) 5 (X.size + zz, X.size + zz + 1))).drew w'.heap.size X.data.toList zz := (MapKept.heap_alloc w' _).1.trans (by rw [If.len_eq])
  have kf := (k'.old (.cells (rowOf X.data.toList zz) 5 (X.size + zz, X.size + zz + 1))).drew
  have hbl : Below w.heap.size w (w'.alloc (.cells (rowOf X.data.toList zz) 5 (X.size + zz, X.size + zz + 1))).drew := (b'.alloc b'.size _).drew
  have hbz : w.heap.size < w'.heap.size := k'.lt
  generalize (w'.alloc (.cells (rowOf X.data.toList zz) 5 (X.size + zz, X.size + zz + 1))).drew = W at *
  generalize hP : w'.heap.size = P at *
  clear hP k' b'
  have c5 := kf.cell 5
  simp only [List.getElem?_cons_zero, List.getElem?_cons_succ] at c5
  go_upto_region 12 with fail
  clear c5
  go_loopw [11] (fun i wr => ∃ j : Nat, j ≤ m ∧ i = .int .i64 j ∧ RowIn wr P (If.tn X.data.toList K y j) zz ∧ Below w.heap.size w wr ∧ Rg.Bk w.heap.size [.int .i64 k, .int .i64 n, .int .i64 a, .int .i64 c, .bool b, .string d] 23 wr) (fun i _ => m - (intOf i).toNat)
  case atStart => exact ⟨0, Nat.zero_le _, rfl, hr0, hbl, kf⟩
  case round =>
    obtain ⟨j, hj, rfl, hrow, hbel, hkf⟩ := hrel
    clear hr0 hbl kf
    have c5 := hkf.cell 5
    simp only [List.getElem?_cons_zero, List.getElem?_cons_succ] at c5
    by_cases hlt : j < m
    · have hcase : j = 0 ∨ j = 1 ∨ j = 2 ∨ j = 3 := by omega
      rcases hcase with rfl | rfl | rfl | rfl
      · obtain ⟨s1, s2, g1, g2, g6, g5⟩ := If.rng (Q := K) (j := 0) rfl hlt hmR hRX u6
        clear s1 s2
        have g3 : decide ((K : Int) < (R : Int)) = true := decide_eq_true g2
        have g4 : K < (If.tn X.data.toList K y 0).length := by rw [If.tn_len, If.len_eq]; exact g6
        have hcell := hrow.cell g4
        have hfz := hrow.thaw g4
        have hset := hrow.set g4 ((If.tn X.data.toList K y 0).getD K 0 ^^^ y 0)
        have htn : Hid (If.tn X.data.toList K y (0 + 1) = (If.tn X.data.toList K y 0).set K ((If.tn X.data.toList K y 0).getD K 0 ^^^ y 0)) := by
          show _ = _
          rfl
        have hx := Bit.xor_u8 ((If.tn X.data.toList K y 0).getD K 0).toNat (y 0).toNat (UInt8.toNat_lt _) (UInt8.toNat_lt _)
        rw [← If.toNat_xor] at hx
        have hbs := hbel.setCell (p := ⟨P, K, none⟩) (Nat.le_of_lt hbz) (.int .u8 (((If.tn X.data.toList K y 0).getD K 0 ^^^ y 0).toNat : Int))
        have hks := hkf.other (c := P) (i := K) (Nat.ne_of_lt hbz) (.int .u8 (((If.tn X.data.toList K y 0).getD K 0 ^^^ y 0).toNat : Int))
        rw [← htn.out] at hset
        clear htn hrow
        generalize (If.tn X.data.toList K y 0).getD K 0 ^^^ y 0 = C at *
        generalize (If.tn X.data.toList K y 0).getD K 0 = x0 at *
        clear g4
        go_wp2
        go_roundw
        case rel => exact ⟨0 + 1, hlt, by first | rfl | go_num, hset, hbs, hks⟩
        case measure => exact If.meas hlt
      · obtain ⟨Q, hQ⟩ : ∃ Q : Nat, Q = K + 1 := ⟨_, rfl⟩
        obtain ⟨s1, s2, g1, g2, g6, g5⟩ := If.rng (j := 1) hQ hlt hmR hRX u6
        have s1 : wrap64 ((K : Int) + 1) = (Q : Int) := s1
        have s2 : IntKind.i64.wrap ((K : Int) + 1) = (Q : Int) := s2
        have g3 : decide ((Q : Int) < (R : Int)) = true := decide_eq_true g2
        have g4 : Q < (If.tn X.data.toList K y 1).length := by rw [If.tn_len, If.len_eq]; exact g6
        have hcell := hrow.cell g4
        have hfz := hrow.thaw g4
        have hset := hrow.set g4 ((If.tn X.data.toList K y 1).getD Q 0 ^^^ y 1)
        have htn : Hid (If.tn X.data.toList K y (1 + 1) = (If.tn X.data.toList K y 1).set Q ((If.tn X.data.toList K y 1).getD Q 0 ^^^ y 1)) := by
          show _ = _
          rw [hQ]; rfl
        have hx := Bit.xor_u8 ((If.tn X.data.toList K y 1).getD Q 0).toNat (y 1).toNat (UInt8.toNat_lt _) (UInt8.toNat_lt _)
        rw [← If.toNat_xor] at hx
        have hbs := hbel.setCell (p := ⟨P, Q, none⟩) (Nat.le_of_lt hbz) (.int .u8 (((If.tn X.data.toList K y 1).getD Q 0 ^^^ y 1).toNat : Int))
        have hks := hkf.other (c := P) (i := Q) (Nat.ne_of_lt hbz) (.int .u8 (((If.tn X.data.toList K y 1).getD Q 0 ^^^ y 1).toNat : Int))
        rw [← htn.out] at hset
        clear htn hrow
        generalize (If.tn X.data.toList K y 1).getD Q 0 ^^^ y 1 = C at *
        generalize (If.tn X.data.toList K y 1).getD Q 0 = x0 at *
        clear g4 hQ
        go_wp2
        go_roundw
        case rel => exact ⟨1 + 1, hlt, by first | rfl | go_num, hset, hbs, hks⟩
        case measure => exact If.meas hlt
      · obtain ⟨Q, hQ⟩ : ∃ Q : Nat, Q = K + 2 := ⟨_, rfl⟩
        obtain ⟨s1, s2, g1, g2, g6, g5⟩ := If.rng (j := 2) hQ hlt hmR hRX u6
        have s1 : wrap64 ((K : Int) + 2) = (Q : Int) := s1
        have s2 : IntKind.i64.wrap ((K : Int) + 2) = (Q : Int) := s2
        have g3 : decide ((Q : Int) < (R : Int)) = true := decide_eq_true g2
        have g4 : Q < (If.tn X.data.toList K y 2).length := by rw [If.tn_len, If.len_eq]; exact g6
        have hcell := hrow.cell g4
        have hfz := hrow.thaw g4
        have hset := hrow.set g4 ((If.tn X.data.toList K y 2).getD Q 0 ^^^ y 2)
        have htn : Hid (If.tn X.data.toList K y (2 + 1) = (If.tn X.data.toList K y 2).set Q ((If.tn X.data.toList K y 2).getD Q 0 ^^^ y 2)) := by
          show _ = _
          rw [hQ]; rfl
        have hx := Bit.xor_u8 ((If.tn X.data.toList K y 2).getD Q 0).toNat (y 2).toNat (UInt8.toNat_lt _) (UInt8.toNat_lt _)
        rw [← If.toNat_xor] at hx
        have hbs := hbel.setCell (p := ⟨P, Q, none⟩) (Nat.le_of_lt hbz) (.int .u8 (((If.tn X.data.toList K y 2).getD Q 0 ^^^ y 2).toNat : Int))
        have hks := hkf.other (c := P) (i := Q) (Nat.ne_of_lt hbz) (.int .u8 (((If.tn X.data.toList K y 2).getD Q 0 ^^^ y 2).toNat : Int))
        rw [← htn.out] at hset
        clear htn hrow
        generalize (If.tn X.data.toList K y 2).getD Q 0 ^^^ y 2 = C at *
        generalize (If.tn X.data.toList K y 2).getD Q 0 = x0 at *
        clear g4 hQ
        go_wp2
        go_roundw
        case rel => exact ⟨2 + 1, hlt, by first | rfl | go_num, hset, hbs, hks⟩
        case measure => exact If.meas hlt
      · obtain ⟨Q, hQ⟩ : ∃ Q : Nat, Q = K + 3 := ⟨_, rfl⟩
        obtain ⟨s1, s2, g1, g2, g6, g5⟩ := If.rng (j := 3) hQ hlt hmR hRX u6
        have s1 : wrap64 ((K : Int) + 3) = (Q : Int) := s1
        have s2 : IntKind.i64.wrap ((K : Int) + 3) = (Q : Int) := s2
        have g3 : decide ((Q : Int) < (R : Int)) = true := decide_eq_true g2
        have g4 : Q < (If.tn X.data.toList K y 3).length := by rw [If.tn_len, If.len_eq]; exact g6
        have hcell := hrow.cell g4
        have hfz := hrow.thaw g4
        have hset := hrow.set g4 ((If.tn X.data.toList K y 3).getD Q 0 ^^^ y 3)
        have htn : Hid (If.tn X.data.toList K y (3 + 1) = (If.tn X.data.toList K y 3).set Q ((If.tn X.data.toList K y 3).getD Q 0 ^^^ y 3)) := by
          show _ = _
          rw [hQ]; rfl
        have hx := Bit.xor_u8 ((If.tn X.data.toList K y 3).getD Q 0).toNat (y 3).toNat (UInt8.toNat_lt _) (UInt8.toNat_lt _)
        rw [← If.toNat_xor] at hx
        have hbs := hbel.setCell (p := ⟨P, Q, none⟩) (Nat.le_of_lt hbz) (.int .u8 (((If.tn X.data.toList K y 3).getD Q 0 ^^^ y 3).toNat : Int))
        have hks := hkf.other (c := P) (i := Q) (Nat.ne_of_lt hbz) (.int .u8 (((If.tn X.data.toList K y 3).getD Q 0 ^^^ y 3).toNat : Int))
        rw [← htn.out] at hset
        clear htn hrow
        generalize (If.tn X.data.toList K y 3).getD Q 0 ^^^ y 3 = C at *
        generalize (If.tn X.data.toList K y 3).getD Q 0 = x0 at *
        clear g4 hQ
        go_wp2
        go_roundw
        case rel => exact ⟨3 + 1, hlt, by first | rfl | go_num, hset, hbs, hks⟩
        case measure => exact If.meas hlt
    · obtain rfl : j = m := by omega
      have hLl : (If.tn X.data.toList K y j).length = X.size := by rw [If.tn_len, If.len_eq]
      have hcv := hrow.conv (cap := cap)
      rw [hLl, hZL.out] at hcv
      by_cases h4 : j = 4
      · subst h4
        clear hend hlt
        go_upto_region 13 with (go_at_call 12; refine (HR.out _).mono ?_; rintro e w8 ⟨rfl, b8⟩)
        have hrow8 := (hrow.below b8 hrow.lt).old (.cells #[.int .i64 k2, .int .i64 n2, .int .i64 a2, .int .i64 c2, .bool b2, .string d2] 23)
        have hcv8 := hrow8.conv (cap := cap)
        rw [hLl, hZL.out] at hcv8
        have bl8 := If.more (hbel.trans (b8.mono hbel.size)) (.cells #[.int .i64 k2, .int .i64 n2, .int .i64 a2, .int .i64 c2, .bool b2, .string d2] 23)
        clear hrow8
        generalize World.alloc _ _ = w9 at *
        go_wp2_with (go_at_call 9; refine (HB.out _).mono ?_; rintro e w10 ⟨rfl, b10⟩)
        go_ret
        exact ⟨rfl, bl8.trans (b10.mono bl8.size)⟩
      · have hjR : K + j = R := If.end2 hend h4
        obtain ⟨Q, hQ⟩ : ∃ Q : Nat, Q = K + j := ⟨_, rfl⟩
        obtain ⟨e2, e3, e4, e5⟩ := If.stop hQ hjR hRX u6
        have hcase : j = 1 ∨ j = 2 ∨ j = 3 := If.end3 hjR r7 hm4 h4
        clear hend hlt h4 hjR hmR hQ
        rcases hcase with rfl | rfl | rfl
        · have e2 : wrap64 ((K : Int) + 1) = (Q : Int) := e2
          have e3 : IntKind.i64.wrap ((K : Int) + 1) = (Q : Int) := e3
          go_upto_region 13 with (go_at_call 12; refine (HR.out _).mono ?_; rintro e w8 ⟨rfl, b8⟩)
          have hrow8 := (hrow.below b8 hrow.lt).old (.cells #[.int .i64 k2, .int .i64 n2, .int .i64 a2, .int .i64 c2, .bool b2, .string d2] 23)
          have hcv8 := hrow8.conv (cap := cap)
          rw [hLl, hZL.out] at hcv8
          have bl8 := If.more (hbel.trans (b8.mono hbel.size)) (.cells #[.int .i64 k2, .int .i64 n2, .int .i64 a2, .int .i64 c2, .bool b2, .string d2] 23)
          clear hrow8
          generalize World.alloc _ _ = w9 at *
          go_wp2_with (go_at_call 9; refine (HB.out _).mono ?_; rintro e w10 ⟨rfl, b10⟩)
          go_ret
          exact ⟨rfl, bl8.trans (b10.mono bl8.size)⟩
        · have e2 : wrap64 ((K : Int) + 2) = (Q : Int) := e2
          have e3 : IntKind.i64.wrap ((K : Int) + 2) = (Q : Int) := e3
          go_upto_region 13 with (go_at_call 12; refine (HR.out _).mono ?_; rintro e w8 ⟨rfl, b8⟩)
          have hrow8 := (hrow.below b8 hrow.lt).old (.cells #[.int .i64 k2, .int .i64 n2, .int .i64 a2, .int .i64 c2, .bool b2, .string d2] 23)
          have hcv8 := hrow8.conv (cap := cap)
          rw [hLl, hZL.out] at hcv8
          have bl8 := If.more (hbel.trans (b8.mono hbel.size)) (.cells #[.int .i64 k2, .int .i64 n2, .int .i64 a2, .int .i64 c2, .bool b2, .string d2] 23)
          clear hrow8
          generalize World.alloc _ _ = w9 at *
          go_wp2_with (go_at_call 9; refine (HB.out _).mono ?_; rintro e w10 ⟨rfl, b10⟩)
          go_ret
          exact ⟨rfl, bl8.trans (b10.mono bl8.size)⟩
        · have e2 : wrap64 ((K : Int) + 3) = (Q : Int) := e2
          have e3 : IntKind.i64.wrap ((K : Int) + 3) = (Q : Int) := e3
          go_upto_region 13 with (go_at_call 12; refine (HR.out _).mono ?_; rintro e w8 ⟨rfl, b8⟩)
          have hrow8 := (hrow.below b8 hrow.lt).old (.cells #[.int .i64 k2, .int .i64 n2, .int .i64 a2, .int .i64 c2, .bool b2, .string d2] 23)
          have hcv8 := hrow8.conv (cap := cap)
          rw [hLl, hZL.out] at hcv8
          have bl8 := If.more (hbel.trans (b8.mono hbel.size)) (.cells #[.int .i64 k2, .int .i64 n2, .int .i64 a2, .int .i64 c2, .bool b2, .string d2] 23)
          clear hrow8
          generalize World.alloc _ _ = w9 at *
          go_wp2_with (go_at_call 9; refine (HB.out _).mono ?_; rintro e w10 ⟨rfl, b10⟩)
          go_ret
          exact ⟨rfl, bl8.trans (b10.mono bl8.size)⟩
set_option linter.unusedVariables false in
set_option maxHeartbeats 4000000 in
set_option maxRecDepth 100000 in
theorem iturn_data_false (k n a c : Int) (b : Bool) (p q : Int) (d : ByteArray) (w : World) (bw : Below w.heap.size w (w.alloc (.cells #[.int .i64 k, .int .i64 n, .int .i64 a, .int .i64 c, .bool b, .string d] 23))) (kw : Rg.Bk w.heap.size [.int .i64 k, .int .i64 n, .int .i64 a, .int .i64 c, .bool b, .string d] 23 (w.alloc (.cells #[.int .i64 k, .int .i64 n, .int .i64 a, .int .i64 c, .bool b, .string d] 23))) (HA : Hid (∀ W, Below w.heap.size w W → Rg.Bk w.heap.size [.int .i64 k, .int .i64 n, .int .i64 a, .int .i64 c, .bool b, .string d] 23 W → Calls Try.prog 9 #[] W fun e w' => e = .returned (.bool true) ∧ Below w.heap.size w w' ∧ Rg.Bk w.heap.size [.int .i64 k, .int .i64 n, .int .i64 a, .int .i64 c, .bool b, .string d] 23 w'))
    (q1 : decide ((5000 : Int) < (d.size : Int)) = false) (X : ByteArray) (U K R : Nat) (u1 : IntKind.u64.wrap p = (U : Int)) (r1 : wrap64 (6 + (d.size : Int)) = (R : Int)) (r2 : IntKind.i64.wrap (6 + (d.size : Int)) = (R : Int)) (r3 : 6 + (d.size : Int) = (R : Int)) (r4 : IntKind.u64.wrap (R : Int) = (R : Int)) (r5 : (U : Int) % (R : Int) = (K : Int)) (r6 : (U : Int).tmod (R : Int) = (K : Int)) (r7 : K < R) (r8 : (K : Int) < (R : Int)) (r9 : R ≤ 5006) (r0 : ¬ R = 0) (hK : decide ((K : Int) < 6) = false) (hK2 : decide ((6 : Int) ≤ (K : Int)) = true) (m : Nat) (hm4 : m ≤ 4) (hmR : K + m ≤ R) (hend : m = 4 ∨ K + m = R) (hRX : R ≤ X.size) (u6 : X.size ≤ 5000)
    (y : Nat → UInt8) (v0 : IntKind.u8.wrap q = ((y 0).toNat : Int)) (v0' : IntKind.u8.wrap (q / 1) = ((y 0).toNat : Int)) (v1 : IntKind.u8.wrap (q / 256) = ((y 1).toNat : Int)) (v2 : IntKind.u8.wrap (q / 65536) = ((y 2).toNat : Int)) (v3 : IntKind.u8.wrap (q / 16777216) = ((y 3).toNat : Int))
    (Z : ByteArray) (hZL : Hid ((⟨(If.tn X.data.toList K y m).toArray⟩ : ByteArray) = Z)) (k2 n2 a2 c2 : Int) (b2 : Bool) (d2 : ByteArray) (N : Nat) (hZ : (Z.toList == X.toList) = false) (E : Nat) (hE1 : ¬ E = 0) (hE2 : ((E : Int) == 0) = false) (hE3 : decide ((E : Int) = 0) = false) (hE4 : decide (E = 0) = false) (hE5 : ((E : Int) != 0) = true)
    (HW : Hid (∀ W, Below w.heap.size w W → Rg.Bk w.heap.size [.int .i64 k, .int .i64 n, .int .i64 a, .int .i64 c, .bool b, .string d] 23 W → Calls Try.prog 10 #[.agg #[.int .i64 k, .int .i64 n, .int .i64 a, .int .i64 c, .bool b, .string d]] W fun e w' => e = .returned (.tuple #[.string X, .int .i64 0]) ∧ Below w.heap.size w w' ∧ Rg.Bk w.heap.size [.int .i64 k, .int .i64 n, .int .i64 a, .int .i64 c, .bool b, .string d] 23 w'))
    (HR : Hid (∀ W, Calls Try.prog 12 #[.string Z] W fun e w' => e = .returned (.tuple #[.agg #[.int .i64 k2, .int .i64 n2, .int .i64 a2, .int .i64 c2, .bool b2, .string d2], .int .i64 N, .int .i64 E]) ∧ Below W.heap.size W w'))
    (HB : Hid (∀ W, Calls Try.prog 9 #[] W fun e w' => e = .returned (.bool true) ∧ Below W.heap.size W w')) :
    Calls Try.prog 8 #[.agg #[.int .i64 k, .int .i64 n, .int .i64 a, .int .i64 c, .bool b, .string d], .int .i64 p, .int .i64 q] w fun e w' => e = .returned (.bool true) ∧ Below w.heap.size w w' := by
  go_enter Try.func8, Try.ntmps8
  go_upto_region 4 with (go_at_call 10; (first | with_reducible refine (HW.out _ (by first | assumption | exact If.more (by assumption) _) (by first | assumption | exact Rg.Bk.old (by assumption) _)).mono ?_); rintro e w' ⟨rfl, b', k'⟩; have c' := k'.cell; have z' := k'.lt)
  have hcv := run_bytes_of_string (P := Try.prog) w' 9 39 5 X Try.underlying9 Try.underlying39 Try.underlying5
  have hrow := bytesRow_eq X (grownCap w' X.size 0 5)
  rw [hrow, rowOf_size, Array.length_toList] at hcv
  generalize grownCap w' X.size 0 5 = cap at *
  generalize cap - X.size = zz at *
  clear hrow c' z'
  go_upto_region 5 with fail
  clear hcv
  have hr0 : RowIn (w'.alloc (.cells (rowOf X.data.toList zz) 5 (X.size + zz, X.size + zz + 1))).drew w'.heap.size X.data.toList zz := (MapKept.heap_alloc w' _).1.trans (by rw [If.len_eq])
  have kf := (k'.old (.cells (rowOf X.data.toList zz) 5 (X.size + zz, X.size + zz + 1))).drew
  have hbl : Below w.heap.size w (w'.alloc (.cells (rowOf X.data.toList zz) 5 (X.size + zz, X.size + zz + 1))).drew := (b'.alloc b'.size _).drew
  have hbz : w.heap.size < w'.heap.size := k'.lt
  generalize (w'.alloc (.cells (rowOf X.data.toList zz) 5 (X.size + zz, X.size + zz + 1))).drew = W at *
  generalize hP : w'.heap.size = P at *
  clear hP k' b'
  have c5 := kf.cell 5
  simp only [List.getElem?_cons_zero, List.getElem?_cons_succ] at c5
  go_upto_region 12 with fail
  clear c5
  go_loopw [11] (fun i wr => ∃ j : Nat, j ≤ m ∧ i = .int .i64 j ∧ RowIn wr P (If.tn X.data.toList K y j) zz ∧ Below w.heap.size w wr ∧ Rg.Bk w.heap.size [.int .i64 k, .int .i64 n, .int .i64 a, .int .i64 c, .bool b, .string d] 23 wr) (fun i _ => m - (intOf i).toNat)
  case atStart => exact ⟨0, Nat.zero_le _, rfl, hr0, hbl, kf⟩
  case round =>
    obtain ⟨j, hj, rfl, hrow, hbel, hkf⟩ := hrel
    clear hr0 hbl kf
    have c5 := hkf.cell 5
    simp only [List.getElem?_cons_zero, List.getElem?_cons_succ] at c5
    by_cases hlt : j < m
    · have hcase : j = 0 ∨ j = 1 ∨ j = 2 ∨ j = 3 := by omega
      rcases hcase with rfl | rfl | rfl | rfl
      · obtain ⟨s1, s2, g1, g2, g6, g5⟩ := If.rng (Q := K) (j := 0) rfl hlt hmR hRX u6
        clear s1 s2
        have g3 : decide ((K : Int) < (R : Int)) = true := decide_eq_true g2
        have g4 : K < (If.tn X.data.toList K y 0).length := by rw [If.tn_len, If.len_eq]; exact g6
        have hcell := hrow.cell g4
        have hfz := hrow.thaw g4
        have hset := hrow.set g4 ((If.tn X.data.toList K y 0).getD K 0 ^^^ y 0)
        have htn : Hid (If.tn X.data.toList K y (0 + 1) = (If.tn X.data.toList K y 0).set K ((If.tn X.data.toList K y 0).getD K 0 ^^^ y 0)) := by
          show _ = _
          rfl
        have hx := Bit.xor_u8 ((If.tn X.data.toList K y 0).getD K 0).toNat (y 0).toNat (UInt8.toNat_lt _) (UInt8.toNat_lt _)
        rw [← If.toNat_xor] at hx
        have hbs := hbel.setCell (p := ⟨P, K, none⟩) (Nat.le_of_lt hbz) (.int .u8 (((If.tn X.data.toList K y 0).getD K 0 ^^^ y 0).toNat : Int))
        have hks := hkf.other (c := P) (i := K) (Nat.ne_of_lt hbz) (.int .u8 (((If.tn X.data.toList K y 0).getD K 0 ^^^ y 0).toNat : Int))
        rw [← htn.out] at hset
        clear htn hrow
        generalize (If.tn X.data.toList K y 0).getD K 0 ^^^ y 0 = C at *
        generalize (If.tn X.data.toList K y 0).getD K 0 = x0 at *
        clear g4
        go_wp2
        go_roundw
        case rel => exact ⟨0 + 1, hlt, by first | rfl | go_num, hset, hbs, hks⟩
        case measure => exact If.meas hlt
      · obtain ⟨Q, hQ⟩ : ∃ Q : Nat, Q = K + 1 := ⟨_, rfl⟩
        obtain ⟨s1, s2, g1, g2, g6, g5⟩ := If.rng (j := 1) hQ hlt hmR hRX u6
        have s1 : wrap64 ((K : Int) + 1) = (Q : Int) := s1
        have s2 : IntKind.i64.wrap ((K : Int) + 1) = (Q : Int) := s2
        have g3 : decide ((Q : Int) < (R : Int)) = true := decide_eq_true g2
        have g4 : Q < (If.tn X.data.toList K y 1).length := by rw [If.tn_len, If.len_eq]; exact g6
        have hcell := hrow.cell g4
        have hfz := hrow.thaw g4
        have hset := hrow.set g4 ((If.tn X.data.toList K y 1).getD Q 0 ^^^ y 1)
        have htn : Hid (If.tn X.data.toList K y (1 + 1) = (If.tn X.data.toList K y 1).set Q ((If.tn X.data.toList K y 1).getD Q 0 ^^^ y 1)) := by
          show _ = _
          rw [hQ]; rfl
        have hx := Bit.xor_u8 ((If.tn X.data.toList K y 1).getD Q 0).toNat (y 1).toNat (UInt8.toNat_lt _) (UInt8.toNat_lt _)
        rw [← If.toNat_xor] at hx
        have hbs := hbel.setCell (p := ⟨P, Q, none⟩) (Nat.le_of_lt hbz) (.int .u8 (((If.tn X.data.toList K y 1).getD Q 0 ^^^ y 1).toNat : Int))
        have hks := hkf.other (c := P) (i := Q) (Nat.ne_of_lt hbz) (.int .u8 (((If.tn X.data.toList K y 1).getD Q 0 ^^^ y 1).toNat : Int))
        rw [← htn.out] at hset
        clear htn hrow
        generalize (If.tn X.data.toList K y 1).getD Q 0 ^^^ y 1 = C at *
        generalize (If.tn X.data.toList K y 1).getD Q 0 = x0 at *
        clear g4 hQ
        go_wp2
        go_roundw
        case rel => exact ⟨1 + 1, hlt, by first | rfl | go_num, hset, hbs, hks⟩
        case measure => exact If.meas hlt
      · obtain ⟨Q, hQ⟩ : ∃ Q : Nat, Q = K + 2 := ⟨_, rfl⟩
        obtain ⟨s1, s2, g1, g2, g6, g5⟩ := If.rng (j := 2) hQ hlt hmR hRX u6
        have s1 : wrap64 ((K : Int) + 2) = (Q : Int) := s1
        have s2 : IntKind.i64.wrap ((K : Int) + 2) = (Q : Int) := s2
        have g3 : decide ((Q : Int) < (R : Int)) = true := decide_eq_true g2
        have g4 : Q < (If.tn X.data.toList K y 2).length := by rw [If.tn_len, If.len_eq]; exact g6
        have hcell := hrow.cell g4
        have hfz := hrow.thaw g4
        have hset := hrow.set g4 ((If.tn X.data.toList K y 2).getD Q 0 ^^^ y 2)
        have htn : Hid (If.tn X.data.toList K y (2 + 1) = (If.tn X.data.toList K y 2).set Q ((If.tn X.data.toList K y 2).getD Q 0 ^^^ y 2)) := by
          show _ = _
          rw [hQ]; rfl
        have hx := Bit.xor_u8 ((If.tn X.data.toList K y 2).getD Q 0).toNat (y 2).toNat (UInt8.toNat_lt _) (UInt8.toNat_lt _)
        rw [← If.toNat_xor] at hx
        have hbs := hbel.setCell (p := ⟨P, Q, none⟩) (Nat.le_of_lt hbz) (.int .u8 (((If.tn X.data.toList K y 2).getD Q 0 ^^^ y 2).toNat : Int))
        have hks := hkf.other (c := P) (i := Q) (Nat.ne_of_lt hbz) (.int .u8 (((If.tn X.data.toList K y 2).getD Q 0 ^^^ y 2).toNat : Int))
        rw [← htn.out] at hset
        clear htn hrow
        generalize (If.tn X.data.toList K y 2).getD Q 0 ^^^ y 2 = C at *
        generalize (If.tn X.data.toList K y 2).getD Q 0 = x0 at *
        clear g4 hQ
        go_wp2
        go_roundw
        case rel => exact ⟨2 + 1, hlt, by first | rfl | go_num, hset, hbs, hks⟩
        case measure => exact If.meas hlt
      · obtain ⟨Q, hQ⟩ : ∃ Q : Nat, Q = K + 3 := ⟨_, rfl⟩
        obtain ⟨s1, s2, g1, g2, g6, g5⟩ := If.rng (j := 3) hQ hlt hmR hRX u6
        have s1 : wrap64 ((K : Int) + 3) = (Q : Int) := s1
        have s2 : IntKind.i64.wrap ((K : Int) + 3) = (Q : Int) := s2
        have g3 : decide ((Q : Int) < (R : Int)) = true := decide_eq_true g2
        have g4 : Q < (If.tn X.data.toList K y 3).length := by rw [If.tn_len, If.len_eq]; exact g6
        have hcell := hrow.cell g4
        have hfz := hrow.thaw g4
        have hset := hrow.set g4 ((If.tn X.data.toList K y 3).getD Q 0 ^^^ y 3)
        have htn : Hid (If.tn X.data.toList K y (3 + 1) = (If.tn X.data.toList K y 3).set Q ((If.tn X.data.toList K y 3).getD Q 0 ^^^ y 3)) := by
          show _ = _
          rw [hQ]; rfl
        have hx := Bit.xor_u8 ((If.tn X.data.toList K y 3).getD Q 0).toNat (y 3).toNat (UInt8.toNat_lt _) (UInt8.toNat_lt _)
        rw [← If.toNat_xor] at hx
        have hbs := hbel.setCell (p := ⟨P, Q, none⟩) (Nat.le_of_lt hbz) (.int .u8 (((If.tn X.data.toList K y 3).getD Q 0 ^^^ y 3).toNat : Int))
        have hks := hkf.other (c := P) (i := Q) (Nat.ne_of_lt hbz) (.int .u8 (((If.tn X.data.toList K y 3).getD Q 0 ^^^ y 3).toNat : Int))
        rw [← htn.out] at hset
        clear htn hrow
        generalize (If.tn X.data.toList K y 3).getD Q 0 ^^^ y 3 = C at *
        generalize (If.tn X.data.toList K y 3).getD Q 0 = x0 at *
        clear g4 hQ
        go_wp2
        go_roundw
        case rel => exact ⟨3 + 1, hlt, by first | rfl | go_num, hset, hbs, hks⟩
        case measure => exact If.meas hlt
    · obtain rfl : j = m := by omega
      have hLl : (If.tn X.data.toList K y j).length = X.size := by rw [If.tn_len, If.len_eq]
      have hcv := hrow.conv (cap := cap)
      rw [hLl, hZL.out] at hcv
      by_cases h4 : j = 4
      · subst h4
        clear hend hlt
        go_upto_region 13 with (go_at_call 12; refine (HR.out _).mono ?_; rintro e w8 ⟨rfl, b8⟩)
        have hrow8 := (hrow.below b8 hrow.lt).old (.cells #[.int .i64 k2, .int .i64 n2, .int .i64 a2, .int .i64 c2, .bool b2, .string d2] 23)
        have hcv8 := hrow8.conv (cap := cap)
        rw [hLl, hZL.out] at hcv8
        have bl8 := If.more (hbel.trans (b8.mono hbel.size)) (.cells #[.int .i64 k2, .int .i64 n2, .int .i64 a2, .int .i64 c2, .bool b2, .string d2] 23)
        clear hrow8
        generalize World.alloc _ _ = w9 at *
        go_wp2_with (go_at_call 9; refine (HB.out _).mono ?_; rintro e w10 ⟨rfl, b10⟩)
        go_ret
        exact ⟨rfl, bl8.trans (b10.mono bl8.size)⟩
      · have hjR : K + j = R := If.end2 hend h4
        obtain ⟨Q, hQ⟩ : ∃ Q : Nat, Q = K + j := ⟨_, rfl⟩
        obtain ⟨e2, e3, e4, e5⟩ := If.stop hQ hjR hRX u6
        have hcase : j = 1 ∨ j = 2 ∨ j = 3 := If.end3 hjR r7 hm4 h4
        clear hend hlt h4 hjR hmR hQ
        rcases hcase with rfl | rfl | rfl
        · have e2 : wrap64 ((K : Int) + 1) = (Q : Int) := e2
          have e3 : IntKind.i64.wrap ((K : Int) + 1) = (Q : Int) := e3
          go_upto_region 13 with (go_at_call 12; refine (HR.out _).mono ?_; rintro e w8 ⟨rfl, b8⟩)
          have hrow8 := (hrow.below b8 hrow.lt).old (.cells #[.int .i64 k2, .int .i64 n2, .int .i64 a2, .int .i64 c2, .bool b2, .string d2] 23)
          have hcv8 := hrow8.conv (cap := cap)
          rw [hLl, hZL.out] at hcv8
          have bl8 := If.more (hbel.trans (b8.mono hbel.size)) (.cells #[.int .i64 k2, .int .i64 n2, .int .i64 a2, .int .i64 c2, .bool b2, .string d2] 23)
          clear hrow8
          generalize World.alloc _ _ = w9 at *
          go_wp2_with (go_at_call 9; refine (HB.out _).mono ?_; rintro e w10 ⟨rfl, b10⟩)
          go_ret
          exact ⟨rfl, bl8.trans (b10.mono bl8.size)⟩
        · have e2 : wrap64 ((K : Int) + 2) = (Q : Int) := e2
          have e3 : IntKind.i64.wrap ((K : Int) + 2) = (Q : Int) := e3
          go_upto_region 13 with (go_at_call 12; refine (HR.out _).mono ?_; rintro e w8 ⟨rfl, b8⟩)
          have hrow8 := (hrow.below b8 hrow.lt).old (.cells #[.int .i64 k2, .int .i64 n2, .int .i64 a2, .int .i64 c2, .bool b2, .string d2] 23)
          have hcv8 := hrow8.conv (cap := cap)
          rw [hLl, hZL.out] at hcv8
          have bl8 := If.more (hbel.trans (b8.mono hbel.size)) (.cells #[.int .i64 k2, .int .i64 n2, .int .i64 a2, .int .i64 c2, .bool b2, .string d2] 23)
          clear hrow8
          generalize World.alloc _ _ = w9 at *
          go_wp2_with (go_at_call 9; refine (HB.out _).mono ?_; rintro e w10 ⟨rfl, b10⟩)
          go_ret
          exact ⟨rfl, bl8.trans (b10.mono bl8.size)⟩
        · have e2 : wrap64 ((K : Int) + 3) = (Q : Int) := e2
          have e3 : IntKind.i64.wrap ((K : Int) + 3) = (Q : Int) := e3
          go_upto_region 13 with (go_at_call 12; refine (HR.out _).mono ?_; rintro e w8 ⟨rfl, b8⟩)
          have hrow8 := (hrow.below b8 hrow.lt).old (.cells #[.int .i64 k2, .int .i64 n2, .int .i64 a2, .int .i64 c2, .bool b2, .string d2] 23)
          have hcv8 := hrow8.conv (cap := cap)
          rw [hLl, hZL.out] at hcv8
          have bl8 := If.more (hbel.trans (b8.mono hbel.size)) (.cells #[.int .i64 k2, .int .i64 n2, .int .i64 a2, .int .i64 c2, .bool b2, .string d2] 23)
          clear hrow8
          generalize World.alloc _ _ = w9 at *
          go_wp2_with (go_at_call 9; refine (HB.out _).mono ?_; rintro e w10 ⟨rfl, b10⟩)
          go_ret
          exact ⟨rfl, bl8.trans (b10.mono bl8.size)⟩
end Go.Proofs.Ytghelhcmecmldaa
