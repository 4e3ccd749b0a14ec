/-
  Walks of the document's layer 11: a head, a field. Walks of the document's layer 11: Write.
-/
import Derived.Test.YtomldoijcclhhaaGreatSkAG
import Derived.Test.YtomldoijcclhhaaGreatSkAB
import Derived.Deep.OwnRows
namespace Go.Proofs.YtomldoijcclhhaaGreat
open Go.RowKit
namespace Gf
theorem bax (a b : ByteArray) : (a ++ b).size = a.size + b.size := by simp
theorem ln (s : ByteArray) : s.data.toList.length = s.size := by rw [Array.length_toList]; rfl
end Gf
set_option maxHeartbeats 1000000 in
theorem rghead_core (k s c a b x1 x2 x : Nat) (f0 : bits .and .i64 (s : Int) 255 = (a : Int)) (f1 : (s : Int) / 256 = (b : Int))
    (g1 : IntKind.u8.wrap (k : Int) = (k : Int)) (g2 : IntKind.u8.wrap (a : Int) = (a : Int)) (g3 : IntKind.u8.wrap (b : Int) = (b : Int)) (g4 : IntKind.u8.wrap (c : Int) = (c : Int)) (g5 : IntKind.u8.wrap (x : Int) = (x : Int))
    (y1 : bits .xor .i64 (k : Int) (a : Int) = (x1 : Int)) (y2 : bits .xor .i64 (x1 : Int) (b : Int) = (x2 : Int)) (y3 : bits .xor .i64 (x2 : Int) (c : Int) = (x : Int)) (w : World)
    (hcv : (convert 65 9 (.slice (some ⟨w.heap.size, 0, none⟩) 6 6)).run Tryz.prog (w.alloc (.cells #[.int .u8 16, .int .u8 k, .int .u8 a, .int .u8 b, .int .u8 c, .int .u8 x] 5)) = .ok (.string ⟨#[16, UInt8.ofNat k, UInt8.ofNat a, UInt8.ofNat b, UInt8.ofNat c, UInt8.ofNat x]⟩) (w.alloc (.cells #[.int .u8 16, .int .u8 k, .int .u8 a, .int .u8 b, .int .u8 c, .int .u8 x] 5)))
    (bw : Below w.heap.size w (w.alloc (.cells #[.int .u8 16, .int .u8 k, .int .u8 a, .int .u8 b, .int .u8 c, .int .u8 x] 5))) :
    Calls Tryz.prog 135 #[.int .i64 k, .int .i64 s, .int .i64 c] w fun e w' => e = .returned (.string ⟨#[16, UInt8.ofNat k, UInt8.ofNat a, UInt8.ofNat b, UInt8.ofNat c, UInt8.ofNat x]⟩) ∧ Below w.heap.size w w' := by
  go_enter Tryz.func135, Tryz.ntmps135
  go_wp2
  go_ret
  exact ⟨rfl, bw⟩
theorem rghead_any (k s c : Nat) (hk : k < 256) (hs : s < 65536) (hc : c < 256) (w : World) :
    Calls Tryz.prog 135 #[.int .i64 k, .int .i64 s, .int .i64 c] w fun e w' => e = .returned (.string ⟨(Gf.head k s c).toArray⟩) ∧ Below w.heap.size w w' := by
  have ha : s % 256 < 256 := Nat.mod_lt _ (by decide)
  have hb : s / 256 < 256 := by omega
  have hx1 := Chk.xor8 hk ha
  have hx2 := Chk.xor8 hx1 hb
  have hx3 := Chk.xor8 hx2 hc
  have wr : ∀ q : Nat, q < 256 → IntKind.u8.wrap (q : Int) = (q : Int) := fun q hq => by rw [IntKind.wrap_u8]; omega
  exact rghead_core k s c (s % 256) (s / 256) (k ^^^ s % 256) (k ^^^ s % 256 ^^^ s / 256) (k ^^^ s % 256 ^^^ s / 256 ^^^ c) (by rw [Bit.and_i64_255]; omega) (by omega) (wr _ hk) (wr _ ha) (wr _ hb) (wr _ hc) (wr _ hx3)
    (Bit.xor_i64 _ _ (by omega) (by omega)) (Bit.xor_i64 _ _ (by omega) (by omega)) (Bit.xor_i64 _ _ (by omega) (by omega)) w
    (Gf.conv_nat (l := [16, k, s % 256, s / 256, c, k ^^^ s % 256 ^^^ s / 256 ^^^ c]) (by intro n hn; simp at hn; omega) (Gf.heap_new w _)) (Gf.below1 w _)

set_option maxHeartbeats 1000000 in
theorem rgfield_1 (t h l : Int) (z n Q : Nat) (d : ByteArray) (w : World) (hd : d.size ≤ 4096) (hsub : (z : Int) - (d.size : Int) = (n : Int)) (hzl : z ≤ 4096) (f1 : IntKind.u8.wrap (n : Int) = (n : Int)) (d1 : decide ((127 : Int) < (n : Int)) = false)
    (hcv : (convert 65 9 (.slice (some ⟨w.heap.size + 1, 0, none⟩) 1 1)).run Tryz.prog ((w.alloc (.cells #[.int .i64 t, .int .i64 h, .int .i64 l, .int .i64 z, .string d] 93)).alloc (.cells #[.int .u8 n] 5)) = .ok (.string ⟨#[UInt8.ofNat n]⟩) ((w.alloc (.cells #[.int .i64 t, .int .i64 h, .int .i64 l, .int .i64 z, .string d] 93)).alloc (.cells #[.int .u8 n] 5)))
    (hQz : Hid (z = 1 + d.size + Q)) (bw : Below w.heap.size w ((w.alloc (.cells #[.int .i64 t, .int .i64 h, .int .i64 l, .int .i64 z, .string d] 93)).alloc (.cells #[.int .u8 n] 5))) (kf : Rg.Bk w.heap.size [.int .i64 t, .int .i64 h, .int .i64 l, .int .i64 z, .string d] 93 ((w.alloc (.cells #[.int .i64 t, .int .i64 h, .int .i64 l, .int .i64 z, .string d] 93)).alloc (.cells #[.int .u8 n] 5)))
    (HM : Hid (∀ W : World, (Instr.makeSlice 65 (.int .i64 (Q : Int)) (.int .i64 (Q : Int))).run Tryz.prog W = .ok (.slice (some ⟨W.heap.size, 0, none⟩) Q Q) (W.alloc (.cells (madeCells #[.int .u8 0] Q) 5))))
    (HZ : Hid (∀ W : World, (convert 65 9 (.slice (some ⟨W.heap.size, 0, none⟩) Q Q)).run Tryz.prog (W.alloc (.cells (madeCells #[.int .u8 0] Q) 5)) = .ok (.string ⟨(List.replicate Q (0 : UInt8)).toArray⟩) (W.alloc (.cells (madeCells #[.int .u8 0] Q) 5))))
    (OUT : ByteArray) (hO : Hid ((⟨#[UInt8.ofNat n]⟩ : ByteArray) ++ d ++ ⟨(List.replicate Q (0 : UInt8)).toArray⟩ = OUT)) :
    Calls Tryz.prog 138 #[.agg #[.int .i64 t, .int .i64 h, .int .i64 l, .int .i64 z, .string d]] w fun e w' => e = .returned (.string OUT) ∧ Below w.heap.size w w' := by
  have hXs : Hid (((⟨#[UInt8.ofNat n]⟩ : ByteArray) ++ d).size = 1 + d.size) := Gf.bax _ _
  have hRs : (⟨(List.replicate Q (0 : UInt8)).toArray⟩ : ByteArray).size ≤ 4096 := by
    show (List.replicate Q (0 : UInt8)).toArray.size ≤ _
    have := hQz.out
    simp; omega
  go_enter Tryz.func138, Tryz.ntmps138
  go_upto_region 5 with fail
  generalize (⟨#[UInt8.ofNat n]⟩ : ByteArray) ++ d = X at *
  clear hcv f1 d1
  generalize ((w.alloc (.cells #[.int .i64 t, .int .i64 h, .int .i64 l, .int .i64 z, .string d] 93)).alloc (.cells #[.int .u8 n] 5)) = W at *
  generalize (⟨(List.replicate Q (0 : UInt8)).toArray⟩ : ByteArray) = Z at *
  have hsX : (z : Int) - (X.size : Int) = (Q : Int) := by have := hXs.out; have := hQz.out; omega
  have hXb : X.size ≤ 5000 := by have := hXs.out; omega
  have hM := HM.out W
  have hZ := HZ.out W
  have cF := kf.cell
  go_wp2
  go_ret
  exact ⟨ret_s hO.out, bw.alloc bw.size _⟩
set_option maxHeartbeats 1000000 in
theorem rgfield_2 (t h l : Int) (z n Q : Nat) (d : ByteArray) (w : World) (hd : d.size ≤ 4096) (hsub : (z : Int) - (d.size : Int) = (n : Int)) (hzl : z ≤ 4096) (y a b : Nat) (f1 : IntKind.u8.wrap (n : Int) = (y : Int)) (d1 : decide ((127 : Int) < (n : Int)) = true) (a1 : Nat) (f2 : bits .and .i64 (n : Int) 127 = (a1 : Int)) (f3 : bits .or .i64 (a1 : Int) 128 = (a : Int)) (f4 : IntKind.u8.wrap (a : Int) = (a : Int)) (f5 : (n : Int) / 128 = (b : Int)) (f6 : IntKind.u8.wrap (b : Int) = (b : Int))
    (hcw : (convert 65 9 (.slice (some ⟨w.heap.size + 1, 0, none⟩) 1 1)).run Tryz.prog ((w.alloc (.cells #[.int .i64 t, .int .i64 h, .int .i64 l, .int .i64 z, .string d] 93)).alloc (.cells #[.int .u8 y] 5)) = .ok (.string ⟨#[UInt8.ofNat y]⟩) ((w.alloc (.cells #[.int .i64 t, .int .i64 h, .int .i64 l, .int .i64 z, .string d] 93)).alloc (.cells #[.int .u8 y] 5)))
    (hcv : (convert 65 9 (.slice (some ⟨w.heap.size + 1 + 1, 0, none⟩) 2 2)).run Tryz.prog (((w.alloc (.cells #[.int .i64 t, .int .i64 h, .int .i64 l, .int .i64 z, .string d] 93)).alloc (.cells #[.int .u8 y] 5)).alloc (.cells #[.int .u8 a, .int .u8 b] 5)) = .ok (.string ⟨#[UInt8.ofNat a, UInt8.ofNat b]⟩) (((w.alloc (.cells #[.int .i64 t, .int .i64 h, .int .i64 l, .int .i64 z, .string d] 93)).alloc (.cells #[.int .u8 y] 5)).alloc (.cells #[.int .u8 a, .int .u8 b] 5)))
    (hQz : Hid (z = 2 + d.size + Q)) (bw : Below w.heap.size w (((w.alloc (.cells #[.int .i64 t, .int .i64 h, .int .i64 l, .int .i64 z, .string d] 93)).alloc (.cells #[.int .u8 y] 5)).alloc (.cells #[.int .u8 a, .int .u8 b] 5))) (kf : Rg.Bk w.heap.size [.int .i64 t, .int .i64 h, .int .i64 l, .int .i64 z, .string d] 93 (((w.alloc (.cells #[.int .i64 t, .int .i64 h, .int .i64 l, .int .i64 z, .string d] 93)).alloc (.cells #[.int .u8 y] 5)).alloc (.cells #[.int .u8 a, .int .u8 b] 5)))
    (HM : Hid (∀ W : World, (Instr.makeSlice 65 (.int .i64 (Q : Int)) (.int .i64 (Q : Int))).run Tryz.prog W = .ok (.slice (some ⟨W.heap.size, 0, none⟩) Q Q) (W.alloc (.cells (madeCells #[.int .u8 0] Q) 5))))
    (HZ : Hid (∀ W : World, (convert 65 9 (.slice (some ⟨W.heap.size, 0, none⟩) Q Q)).run Tryz.prog (W.alloc (.cells (madeCells #[.int .u8 0] Q) 5)) = .ok (.string ⟨(List.replicate Q (0 : UInt8)).toArray⟩) (W.alloc (.cells (madeCells #[.int .u8 0] Q) 5))))
    (OUT : ByteArray) (hO : Hid ((⟨#[UInt8.ofNat a, UInt8.ofNat b]⟩ : ByteArray) ++ d ++ ⟨(List.replicate Q (0 : UInt8)).toArray⟩ = OUT)) :
    Calls Tryz.prog 138 #[.agg #[.int .i64 t, .int .i64 h, .int .i64 l, .int .i64 z, .string d]] w fun e w' => e = .returned (.string OUT) ∧ Below w.heap.size w w' := by
  have hXs : Hid (((⟨#[UInt8.ofNat a, UInt8.ofNat b]⟩ : ByteArray) ++ d).size = 2 + d.size) := Gf.bax _ _
  have hRs : (⟨(List.replicate Q (0 : UInt8)).toArray⟩ : ByteArray).size ≤ 4096 := by
    show (List.replicate Q (0 : UInt8)).toArray.size ≤ _
    have := hQz.out
    simp; omega
  go_enter Tryz.func138, Tryz.ntmps138
  go_upto_region 5 with fail
  generalize (⟨#[UInt8.ofNat a, UInt8.ofNat b]⟩ : ByteArray) ++ d = X at *
  clear hcv hcw f1 f2 f3 f4 f5 f6 d1
  generalize (((w.alloc (.cells #[.int .i64 t, .int .i64 h, .int .i64 l, .int .i64 z, .string d] 93)).alloc (.cells #[.int .u8 y] 5)).alloc (.cells #[.int .u8 a, .int .u8 b] 5)) = W at *
  generalize (⟨(List.replicate Q (0 : UInt8)).toArray⟩ : ByteArray) = Z at *
  have hsX : (z : Int) - (X.size : Int) = (Q : Int) := by have := hXs.out; have := hQz.out; omega
  have hXb : X.size ≤ 5000 := by have := hXs.out; omega
  have hM := HM.out W
  have hZ := HZ.out W
  have cF := kf.cell
  go_wp2
  go_ret
  exact ⟨ret_s hO.out, bw.alloc bw.size _⟩
theorem infoByte8 : (Tryz.prog.info? 5).map (fun i => (i.zero, i.size, i.bytes)) = some (some (.int .u8 0), 1, 1) := by kernel_rfl
theorem made_conv (Q : Nat) (W : World) : (convert 65 9 (.slice (some ⟨W.heap.size, 0, none⟩) Q Q)).run Tryz.prog (W.alloc (.cells (madeCells #[.int .u8 0] Q) 5)) = .ok (.string ⟨(List.replicate Q (0 : UInt8)).toArray⟩) (W.alloc (.cells (madeCells #[.int .u8 0] Q) 5)) := by
  have h := run_convert_bytes_back (W.alloc (.cells (madeCells #[.int .u8 0] Q) 5)) 65 9 5 ⟨W.heap.size, 0, none⟩ Q (List.replicate Q (0 : UInt8)) Tryz.underlying65 Tryz.underlying5 Tryz.underlying9 (fun j hj => by
    have e : (⟨W.heap.size, 0, none⟩ : Addr).add j = ⟨W.heap.size, j, none⟩ := by cases j <;> simp [Addr.add]
    rw [List.length_replicate] at hj
    rw [e, Lib.cell_of_heap (Gf.heap_new W _) j]
    simp [madeCells, hj, Nat.mod_one])
  rw [List.length_replicate] at h
  exact h
theorem rgfield_any (t h l : Int) (d : ByteArray) (z : Nat) (hd : d.size < z) (hz : z ≤ 4096) (w : World) :
    Calls Tryz.prog 138 #[.agg #[.int .i64 t, .int .i64 h, .int .i64 l, .int .i64 z, .string d]] w fun e w' => e = .returned (.string ⟨(Gf.field d.data.toList z).toArray⟩) ∧ Below w.heap.size w w' := by
  obtain ⟨n, hn⟩ : ∃ n, z = d.size + n := ⟨z - d.size, by omega⟩
  have hfd : Gf.field d.data.toList z = Gf.cnt n ++ (d.data.toList ++ List.replicate (n - (Gf.cnt n).length) 0) := by
    unfold Gf.field
    rw [Gf.ln, show z - d.size = n by omega]
  have b0 := Gf.below1 w (.cells #[.int .i64 t, .int .i64 h, .int .i64 l, .int .i64 z, .string d] 93)
  have k0 : Rg.Bk w.heap.size [.int .i64 t, .int .i64 h, .int .i64 l, .int .i64 z, .string d] 93 (w.alloc (.cells #[.int .i64 t, .int .i64 h, .int .i64 l, .int .i64 z, .string d] 93)) := Rg.Bk.new rfl
  have HM : ∀ (Q : Nat), Q ≤ 4096 → ∀ W : World, (Instr.makeSlice 65 (.int .i64 (Q : Int)) (.int .i64 (Q : Int))).run Tryz.prog W = .ok (.slice (some ⟨W.heap.size, 0, none⟩) Q Q) (W.alloc (.cells (madeCells #[.int .u8 0] Q) 5)) := fun Q hQ W =>
    run_make_row' 65 5 (.int .u8 0) 1 Tryz.underlying65 infoByte8 rfl .i64 .i64 Q (by omega) (by omega) W
  by_cases h1 : n < 128
  · have hc1 : Gf.cnt n = [UInt8.ofNat n] := by unfold Gf.cnt; rw [if_pos h1]
    refine rgfield_1 t h l z n (n - 1) d w (by omega) (by omega) hz (by rw [IntKind.wrap_u8]; omega) (by simp; omega) (Gf.conv_nat (l := [n]) (by simp <;> omega) ?_) (show _ = _ by omega) (b0.alloc b0.size _) (k0.old _) (HM _ (by omega)) (made_conv _) _ ?_
    · have h := Gf.heap_new (w.alloc (.cells #[.int .i64 t, .int .i64 h, .int .i64 l, .int .i64 z, .string d] 93)) (.cells #[.int .u8 n] 5)
      rw [Gf.alloc_size] at h
      exact h
    · show _ = _
      rw [hfd, hc1, show d = ⟨d.data.toList.toArray⟩ from rfl, show (⟨#[UInt8.ofNat n]⟩ : ByteArray) = ⟨([UInt8.ofNat n] : List UInt8).toArray⟩ from rfl, Gf.ba_app, Gf.ba_app, List.append_assoc]
      rfl
  · have hc1 : Gf.cnt n = [UInt8.ofNat (n % 128 + 128), UInt8.ofNat (n / 128)] := by unfold Gf.cnt; rw [if_neg h1]
    have hor : bits .or .i64 ((n % 128 : Nat) : Int) 128 = ((n % 128 + 128 : Nat) : Int) := by
      have e := Bit.or_i64 (n % 128) 128 (by omega) (by decide)
      have a1 : n % 128 ||| 128 = n % 128 + 128 := by
        have := Nat.two_pow_add_eq_or_of_lt (i := 7) (b := n % 128) (by omega) 1
        rw [Nat.or_comm, Nat.add_comm]; exact this.symm
      rw [a1] at e
      exact e
    have hand : bits .and .i64 (n : Int) 127 = ((n % 128 : Nat) : Int) := by
      have := Bit.and_i64_mask (n : Int) 7 127 (by decide) (by decide)
      exact this.trans (by omega)
    refine rgfield_2 t h l z n (n - 2) d w (by omega) (by omega) hz (n % 256) (n % 128 + 128) (n / 128) (by rw [IntKind.wrap_u8]; omega) (by simp; omega) (n % 128) hand hor (by rw [IntKind.wrap_u8]; omega) (by omega) (by rw [IntKind.wrap_u8]; omega) (Gf.conv_nat (l := [n % 256]) (by simp <;> omega) ?_) (Gf.conv_nat (l := [n % 128 + 128, n / 128]) (by simp <;> omega) ?_) (show _ = _ by omega) ((b0.alloc b0.size _).alloc (b0.alloc b0.size _).size _) ((k0.old _).old _) (HM _ (by omega)) (made_conv _) _ ?_
    · have h := Gf.heap_new (w.alloc (.cells #[.int .i64 t, .int .i64 h, .int .i64 l, .int .i64 z, .string d] 93)) (.cells #[.int .u8 ((n % 256 : Nat) : Int)] 5)
      rw [Gf.alloc_size] at h
      exact h
    · have h := Gf.heap_new ((w.alloc (.cells #[.int .i64 t, .int .i64 h, .int .i64 l, .int .i64 z, .string d] 93)).alloc (.cells #[.int .u8 ((n % 256 : Nat) : Int)] 5)) (.cells #[.int .u8 ((n % 128 + 128 : Nat) : Int), .int .u8 ((n / 128 : Nat) : Int)] 5)
      rw [Gf.alloc_size, Gf.alloc_size] at h
      exact h
    · show _ = _
      rw [hfd, hc1, show d = ⟨d.data.toList.toArray⟩ from rfl, show (⟨#[UInt8.ofNat (n % 128 + 128), UInt8.ofNat (n / 128)]⟩ : ByteArray) = ⟨([UInt8.ofNat (n % 128 + 128), UInt8.ofNat (n / 128)] : List UInt8).toArray⟩ from rfl, Gf.ba_app, Gf.ba_app, List.append_assoc]
      rfl
end Go.Proofs.YtomldoijcclhhaaGreat

namespace Go.Proofs.YtomldoijcclhhaaGreat
open Go.RowKit
set_option maxHeartbeats 4000000 in
set_option maxRecDepth 100000 in
theorem rw_0 (h l : Int) (w : World)  (bw : Below w.heap.size w (w.alloc (.cells #[.int .i64 0, .int .i64 h, .int .i64 l, .int .i64 0, .string ⟨#[]⟩] 93))) (kw : Rg.Bk w.heap.size [.int .i64 0, .int .i64 h, .int .i64 l, .int .i64 0, .string ⟨#[]⟩] 93 (w.alloc (.cells #[.int .i64 0, .int .i64 h, .int .i64 l, .int .i64 0, .string ⟨#[]⟩] 93)))
    (a1 : decide (h < 0) = false) (a2 : decide (7 < h) = false) (a3 : decide (l < 0) = false) (a4 : decide (7 < l) = false) (c m : Nat) (Hd : ByteArray) (HC : Hid (∀ W, Below w.heap.size w W → Rg.Bk w.heap.size [.int .i64 0, .int .i64 h, .int .i64 l, .int .i64 0, .string ⟨#[]⟩] 93 W → Calls Tryz.prog 134 #[.agg #[.int .i64 0, .int .i64 h, .int .i64 l, .int .i64 0, .string ⟨#[]⟩]] W fun e w' => e = .returned (.int .i64 (c : Int)) ∧ Below w.heap.size w w' ∧ Rg.Bk w.heap.size [.int .i64 0, .int .i64 h, .int .i64 l, .int .i64 0, .string ⟨#[]⟩] 93 w'))
    (HQ : Hid (∀ W, Below w.heap.size w W → Rg.Bk w.heap.size [.int .i64 0, .int .i64 h, .int .i64 l, .int .i64 0, .string ⟨#[]⟩] 93 W → Calls Tryz.prog 136 #[.int .i64 c] W fun e w' => e = .returned (.int .i64 (m : Int)) ∧ Below w.heap.size w w' ∧ Rg.Bk w.heap.size [.int .i64 0, .int .i64 h, .int .i64 l, .int .i64 0, .string ⟨#[]⟩] 93 w'))
    (HH : Hid (∀ W, Below w.heap.size w W → Rg.Bk w.heap.size [.int .i64 0, .int .i64 h, .int .i64 l, .int .i64 0, .string ⟨#[]⟩] 93 W → Calls Tryz.prog 135 #[.int .i64 9, .int .i64 m, .int .i64 c] W fun e w' => e = .returned (.string Hd) ∧ Below w.heap.size w w' ∧ Rg.Bk w.heap.size [.int .i64 0, .int .i64 h, .int .i64 l, .int .i64 0, .string ⟨#[]⟩] 93 w')) :
    Calls Tryz.prog 110 #[.agg #[.int .i64 0, .int .i64 h, .int .i64 l, .int .i64 0, .string ⟨#[]⟩]] w fun e w' => e = .returned (.tuple #[.string Hd, .int .i64 0]) ∧ Below w.heap.size w w' := by
  go_enter Tryz.func110, Tryz.ntmps110
  go_wp2_with (first
    | (go_at_call 134; refine (HC.out _ (by first | assumption | exact Below.drew (by assumption)) (by first | assumption | exact Rg.Bk.drew (by assumption))).mono ?_; rintro e w1 ⟨rfl, b1, k1⟩; have c1 := k1.cell)
    | (go_at_call 136; refine (HQ.out _ (by first | assumption | exact Below.drew (by assumption)) (by first | assumption | exact Rg.Bk.drew (by assumption))).mono ?_; rintro e w3 ⟨rfl, b3, k3⟩; have c3 := k3.cell)
    | (go_at_call 135; refine (HH.out _ (by first | assumption | exact Below.drew (by assumption)) (by first | assumption | exact Rg.Bk.drew (by assumption))).mono ?_; rintro e w5 ⟨rfl, b5, k5⟩; have c5 := k5.cell))
  all_goals
    go_ret2
    exact ⟨rfl, by first | assumption | exact Below.drew (by assumption)⟩
set_option maxHeartbeats 4000000 in
set_option maxRecDepth 100000 in
theorem rw_2 (h l z : Int) (d : ByteArray) (w : World)  (bw : Below w.heap.size w (w.alloc (.cells #[.int .i64 2, .int .i64 h, .int .i64 l, .int .i64 z, .string d] 93))) (kw : Rg.Bk w.heap.size [.int .i64 2, .int .i64 h, .int .i64 l, .int .i64 z, .string d] 93 (w.alloc (.cells #[.int .i64 2, .int .i64 h, .int .i64 l, .int .i64 z, .string d] 93)))
    (a1 : decide (h < 0) = false) (a2 : decide (7 < h) = false) (a3 : decide (l < 0) = false) (a4 : decide (7 < l) = false) (k : Nat) (hk : ((k : Int) == 0) = false) (a5 : ((d.size : Int) == z) = true) (c m : Nat) (Hd OUT : ByteArray) (hO : Hid (Hd ++ d = OUT)) (s1 : ¬ 9223372036854775807 < Hd.size + d.size) (HC : Hid (∀ W, Below w.heap.size w W → Rg.Bk w.heap.size [.int .i64 2, .int .i64 h, .int .i64 l, .int .i64 z, .string d] 93 W → Calls Tryz.prog 134 #[.agg #[.int .i64 2, .int .i64 h, .int .i64 l, .int .i64 z, .string d]] W fun e w' => e = .returned (.int .i64 (c : Int)) ∧ Below w.heap.size w w' ∧ Rg.Bk w.heap.size [.int .i64 2, .int .i64 h, .int .i64 l, .int .i64 z, .string d] 93 w'))
    (HK : Hid (∀ W, Below w.heap.size w W → Rg.Bk w.heap.size [.int .i64 2, .int .i64 h, .int .i64 l, .int .i64 z, .string d] 93 W → Calls Tryz.prog 39 #[.int .i64 z] W fun e w' => e = .returned (.int .i64 (k : Int)) ∧ Below w.heap.size w w' ∧ Rg.Bk w.heap.size [.int .i64 2, .int .i64 h, .int .i64 l, .int .i64 z, .string d] 93 w'))
    (HP : Hid (∀ W, Below w.heap.size w W → Rg.Bk w.heap.size [.int .i64 2, .int .i64 h, .int .i64 l, .int .i64 z, .string d] 93 W → Calls Tryz.prog 137 #[.string d, .int .i64 c] W fun e w' => e = .returned (.int .i64 (m : Int)) ∧ Below w.heap.size w w' ∧ Rg.Bk w.heap.size [.int .i64 2, .int .i64 h, .int .i64 l, .int .i64 z, .string d] 93 w'))
    (HH : Hid (∀ W, Below w.heap.size w W → Rg.Bk w.heap.size [.int .i64 2, .int .i64 h, .int .i64 l, .int .i64 z, .string d] 93 W → Calls Tryz.prog 135 #[.int .i64 k, .int .i64 m, .int .i64 c] W fun e w' => e = .returned (.string Hd) ∧ Below w.heap.size w w' ∧ Rg.Bk w.heap.size [.int .i64 2, .int .i64 h, .int .i64 l, .int .i64 z, .string d] 93 w')) :
    Calls Tryz.prog 110 #[.agg #[.int .i64 2, .int .i64 h, .int .i64 l, .int .i64 z, .string d]] w fun e w' => e = .returned (.tuple #[.string OUT, .int .i64 0]) ∧ Below w.heap.size w w' := by
  go_enter Tryz.func110, Tryz.ntmps110
  go_upto_region 12 with (first
    | (go_at_call 134; refine (HC.out _ (by first | assumption | exact Below.drew (by assumption)) (by first | assumption | exact Rg.Bk.drew (by assumption))).mono ?_; rintro e w1 ⟨rfl, b1, k1⟩; have c1 := k1.cell)
    | (go_at_call 39; refine (HK.out _ (by first | assumption | exact Below.drew (by assumption)) (by first | assumption | exact Rg.Bk.drew (by assumption))).mono ?_; rintro e w2 ⟨rfl, b2, k2⟩; have c2 := k2.cell)
    | (go_at_call 137; refine (HP.out _ (by first | assumption | exact Below.drew (by assumption)) (by first | assumption | exact Rg.Bk.drew (by assumption))).mono ?_; rintro e w4 ⟨rfl, b4, k4⟩; have c4 := k4.cell)
    | (go_at_call 135; refine (HH.out _ (by first | assumption | exact Below.drew (by assumption)) (by first | assumption | exact Rg.Bk.drew (by assumption))).mono ?_; rintro e w5 ⟨rfl, b5, k5⟩; have c5 := k5.cell))
  clear c1 c2
  have p3 := k2.cell 3; have p4 := k2.cell 4
  simp only [List.getElem?_cons_zero, List.getElem?_cons_succ] at p3 p4
  go_region_held3 (fun w' => w'.cell? ⟨w.heap.size, 3, none⟩ = some (.int .i64 z) ∧ w'.cell? ⟨w.heap.size, 4, none⟩ = some (.string d)) (go_keep) (first
    | (go_at_call 134; refine (HC.out _ (by first | assumption | exact Below.drew (by assumption)) (by first | assumption | exact Rg.Bk.drew (by assumption))).mono ?_; rintro e w1 ⟨rfl, b1, k1⟩; have rk13 := k1.cell 3; have rk14 := k1.cell 4; simp only [List.getElem?_cons_zero, List.getElem?_cons_succ] at rk13 rk14)
    | (go_at_call 39; refine (HK.out _ (by first | assumption | exact Below.drew (by assumption)) (by first | assumption | exact Rg.Bk.drew (by assumption))).mono ?_; rintro e w2 ⟨rfl, b2, k2⟩; have rk23 := k2.cell 3; have rk24 := k2.cell 4; simp only [List.getElem?_cons_zero, List.getElem?_cons_succ] at rk23 rk24)
    | (go_at_call 137; refine (HP.out _ (by first | assumption | exact Below.drew (by assumption)) (by first | assumption | exact Rg.Bk.drew (by assumption))).mono ?_; rintro e w4 ⟨rfl, b4, k4⟩; have rk43 := k4.cell 3; have rk44 := k4.cell 4; simp only [List.getElem?_cons_zero, List.getElem?_cons_succ] at rk43 rk44)
    | (go_at_call 135; refine (HH.out _ (by first | assumption | exact Below.drew (by assumption)) (by first | assumption | exact Rg.Bk.drew (by assumption))).mono ?_; rintro e w5 ⟨rfl, b5, k5⟩; have rk53 := k5.cell 3; have rk54 := k5.cell 4; simp only [List.getElem?_cons_zero, List.getElem?_cons_succ] at rk53 rk54))
  go_wp2
  all_goals
    go_ret2
    exact ⟨ret_se hO.out rfl, by first | assumption | exact Below.drew (by assumption)⟩
set_option maxHeartbeats 4000000 in
set_option maxRecDepth 100000 in
theorem rw_3 (h l z : Int) (d : ByteArray) (w : World)  (bw : Below w.heap.size w (w.alloc (.cells #[.int .i64 3, .int .i64 h, .int .i64 l, .int .i64 z, .string d] 93))) (kw : Rg.Bk w.heap.size [.int .i64 3, .int .i64 h, .int .i64 l, .int .i64 z, .string d] 93 (w.alloc (.cells #[.int .i64 3, .int .i64 h, .int .i64 l, .int .i64 z, .string d] 93)))
    (a1 : decide (h < 0) = false) (a2 : decide (7 < h) = false) (a3 : decide (l < 0) = false) (a4 : decide (7 < l) = false) (k : Nat) (hk : ((k : Int) == 0) = false) (a5 : decide (z ≤ (d.size : Int)) = false) (c m : Nat) (Bd Hd OUT : ByteArray) (hO : Hid (Hd ++ Bd = OUT)) (hH : Hd.size = 6) (hd : Bd.size ≤ 4096) (HC : Hid (∀ W, Below w.heap.size w W → Rg.Bk w.heap.size [.int .i64 3, .int .i64 h, .int .i64 l, .int .i64 z, .string d] 93 W → Calls Tryz.prog 134 #[.agg #[.int .i64 3, .int .i64 h, .int .i64 l, .int .i64 z, .string d]] W fun e w' => e = .returned (.int .i64 (c : Int)) ∧ Below w.heap.size w w' ∧ Rg.Bk w.heap.size [.int .i64 3, .int .i64 h, .int .i64 l, .int .i64 z, .string d] 93 w'))
    (HK : Hid (∀ W, Below w.heap.size w W → Rg.Bk w.heap.size [.int .i64 3, .int .i64 h, .int .i64 l, .int .i64 z, .string d] 93 W → Calls Tryz.prog 39 #[.int .i64 z] W fun e w' => e = .returned (.int .i64 (k : Int)) ∧ Below w.heap.size w w' ∧ Rg.Bk w.heap.size [.int .i64 3, .int .i64 h, .int .i64 l, .int .i64 z, .string d] 93 w'))
    (HF : Hid (∀ W, Below w.heap.size w W → Rg.Bk w.heap.size [.int .i64 3, .int .i64 h, .int .i64 l, .int .i64 z, .string d] 93 W → Calls Tryz.prog 138 #[.agg #[.int .i64 3, .int .i64 h, .int .i64 l, .int .i64 z, .string d]] W fun e w' => e = .returned (.string Bd) ∧ Below w.heap.size w w' ∧ Rg.Bk w.heap.size [.int .i64 3, .int .i64 h, .int .i64 l, .int .i64 z, .string d] 93 w'))
    (HP : Hid (∀ W, Below w.heap.size w W → Rg.Bk w.heap.size [.int .i64 3, .int .i64 h, .int .i64 l, .int .i64 z, .string d] 93 W → Calls Tryz.prog 137 #[.string Bd, .int .i64 c] W fun e w' => e = .returned (.int .i64 (m : Int)) ∧ Below w.heap.size w w' ∧ Rg.Bk w.heap.size [.int .i64 3, .int .i64 h, .int .i64 l, .int .i64 z, .string d] 93 w'))
    (HH : Hid (∀ W, Below w.heap.size w W → Rg.Bk w.heap.size [.int .i64 3, .int .i64 h, .int .i64 l, .int .i64 z, .string d] 93 W → Calls Tryz.prog 135 #[.int .i64 k, .int .i64 m, .int .i64 c] W fun e w' => e = .returned (.string Hd) ∧ Below w.heap.size w w' ∧ Rg.Bk w.heap.size [.int .i64 3, .int .i64 h, .int .i64 l, .int .i64 z, .string d] 93 w')) :
    Calls Tryz.prog 110 #[.agg #[.int .i64 3, .int .i64 h, .int .i64 l, .int .i64 z, .string d]] w fun e w' => e = .returned (.tuple #[.string OUT, .int .i64 0]) ∧ Below w.heap.size w w' := by
  go_enter Tryz.func110, Tryz.ntmps110
  go_wp2_with (first
    | (go_at_call 134; refine (HC.out _ (by first | assumption | exact Below.drew (by assumption)) (by first | assumption | exact Rg.Bk.drew (by assumption))).mono ?_; rintro e w1 ⟨rfl, b1, k1⟩; have c1 := k1.cell)
    | (go_at_call 39; refine (HK.out _ (by first | assumption | exact Below.drew (by assumption)) (by first | assumption | exact Rg.Bk.drew (by assumption))).mono ?_; rintro e w2 ⟨rfl, b2, k2⟩; have c2 := k2.cell)
    | (go_at_call 138; refine (HF.out _ (by first | assumption | exact Below.drew (by assumption)) (by first | assumption | exact Rg.Bk.drew (by assumption))).mono ?_; rintro e w6 ⟨rfl, b6, k6⟩; have c6 := k6.cell)
    | (go_at_call 137; refine (HP.out _ (by first | assumption | exact Below.drew (by assumption)) (by first | assumption | exact Rg.Bk.drew (by assumption))).mono ?_; rintro e w4 ⟨rfl, b4, k4⟩; have c4 := k4.cell)
    | (go_at_call 135; refine (HH.out _ (by first | assumption | exact Below.drew (by assumption)) (by first | assumption | exact Rg.Bk.drew (by assumption))).mono ?_; rintro e w5 ⟨rfl, b5, k5⟩; have c5 := k5.cell))
  all_goals
    go_ret2
    exact ⟨ret_se hO.out rfl, by first | assumption | exact Below.drew (by assumption)⟩
end Go.Proofs.YtomldoijcclhhaaGreat
