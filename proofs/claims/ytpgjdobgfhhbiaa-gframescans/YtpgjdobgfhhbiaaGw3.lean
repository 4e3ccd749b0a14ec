/-
  Walks of layer 11: a short packet's field.
-/
import Derived.Test.YtpgjdobgfhhbiaaGw2
import Derived.Test.YtpgjdobgfhhbiaaShelf
namespace Go.Proofs.Ytpgjdobgfhhbiaa
open Go.RowKit
namespace Gf
theorem repeat0 : ∀ c : Nat, Lib.repeatL [(0 : UInt8)] c = List.replicate c 0
  | 0 => rfl
  | c + 1 => by rw [Lib.repeatL, repeat0 c, List.replicate_succ]; rfl
theorem ba_of (s : ByteArray) : (⟨s.data.toList.toArray⟩ : ByteArray) = s := rfl
theorem len_eq (s : ByteArray) : s.data.toList.length = s.size := by rw [Array.length_toList]; rfl
end Gf
theorem Gf.app_size (a b : ByteArray) : (a ++ b).size = a.size + b.size := by simp
set_option maxHeartbeats 1000000 in
theorem gfield_any (d : ByteArray) (z : Nat) (h : d.size < z) (hz : z ≤ 4096) (w : World) :
    Calls Try.prog 23 #[.string d, .int .i64 z] w fun e w' => e = .returned (.string ⟨(Gf.field d.data.toList z).toArray⟩) ∧ Below w.heap.size w w' := by
  obtain ⟨n, hn⟩ : ∃ n, z = d.size + n := ⟨z - d.size, by omega⟩
  have hn0 : 0 < n := by omega
  have hnz : n ≤ 4096 := by omega
  have hds : d.size ≤ 4096 := by omega
  have hsub : (z : Int) - (d.size : Int) = (n : Int) := by omega
  have hfd : Hid (Gf.field d.data.toList z = Gf.cnt n ++ (d.data.toList ++ List.replicate (n - (Gf.cnt n).length) 0)) := by
    show _ = _
    unfold Gf.field
    rw [Gf.len_eq, show z - d.size = n by omega]
  replace hn : Hid (z = d.size + n) := hn
  by_cases h1 : n < 128
  · have hc1 : Gf.cnt n = [UInt8.ofNat n] := by unfold Gf.cnt; rw [if_pos h1]
    have f1 : IntKind.u8.wrap (n : Int) = (n : Int) := by rw [IntKind.wrap_u8]; omega
    have hd1 : decide ((128 : Int) ≤ (n : Int)) = false := by simp; omega
    have hcv : (convert 40 9 (.slice (some ⟨w.heap.size, 0, none⟩) 1 1)).run Try.prog (w.alloc (.cells #[.int .u8 n] 5)) = .ok (.string ⟨#[UInt8.ofNat n]⟩) _ := Gf.conv_nat (l := [n]) (by simp <;> omega) (Gf.heap_new w _)
    have bw := Gf.below1 w (.cells #[.int .u8 n] 5)
    obtain ⟨Q, hQ⟩ : ∃ Q, n - 1 = Q := ⟨_, rfl⟩
    replace hQ : Hid (n - 1 = Q) := hQ
    have hres : Hid ((⟨#[UInt8.ofNat n]⟩ : ByteArray) ++ d ++ ⟨(Lib.repeatL [0] Q).toArray⟩ = ⟨(Gf.field d.data.toList z).toArray⟩) := by
      show _ = _
      rw [hfd.out, hc1, Gf.repeat0]
      have e : d = ⟨d.data.toList.toArray⟩ := rfl
      rw [e, show (⟨#[UInt8.ofNat n]⟩ : ByteArray) = ⟨([UInt8.ofNat n] : List UInt8).toArray⟩ from rfl, Gf.ba_app, Gf.ba_app, List.append_assoc]
      rw [show n - ([UInt8.ofNat n] : List UInt8).length = Q from hQ.out]
    have hXs : Hid (((⟨#[UInt8.ofNat n]⟩ : ByteArray) ++ d).size = 1 + d.size) := Gf.app_size _ _
    go_enter Try.func23, Try.ntmps23
    go_upto_region 6 with fail
    generalize (⟨#[UInt8.ofNat n]⟩ : ByteArray) ++ d = X at *
    generalize w.alloc (.cells #[.int .u8 n] 5) = W at *
    have hsX : (z : Int) - (X.size : Int) = (Q : Int) := by have := hXs.out; have := hQ.out; have := hn.out; omega
    have hXb : X.size ≤ 5000 := by have := hXs.out; omega
    have hQb : Q ≤ 4096 := by have := hQ.out; omega
    have HR : Hid (∀ W, Below w.heap.size w W → Calls Try.prog 37 #[.string ⟨#[0]⟩, .int .i64 Q] W fun e w' => e = .returned (.string ⟨(Lib.repeatL [0] Q).toArray⟩) ∧ Below w.heap.size w w') := fun W hW =>
      (Try.strings_Repeat ⟨#[0]⟩ Q W (by omega) (by show 1 * Q ≤ _; omega)).mono fun e w' ⟨a, b⟩ => ⟨a, hW.trans (b.mono hW.size)⟩
    have hRs : (⟨(Lib.repeatL [0] Q).toArray⟩ : ByteArray).size ≤ 4096 := by show (Lib.repeatL [0] Q).length ≤ _; rw [Gf.repeat0, List.length_replicate]; exact hQb
    generalize (⟨(Lib.repeatL [0] Q).toArray⟩ : ByteArray) = R at *
    clear hcv
    go_wp2_with (go_at_call 37; refine (HR.out _ bw).mono ?_; rintro e w2 ⟨rfl, b2⟩)
    go_ret
    exact ⟨ret_s hres.out, b2⟩
  · have hc1 : Gf.cnt n = [UInt8.ofNat (n % 128 + 128), UInt8.ofNat (n / 128)] := by unfold Gf.cnt; rw [if_neg h1]
    have f1 : IntKind.u8.wrap (n : Int) = ((n % 256 : Nat) : Int) := by rw [IntKind.wrap_u8]; omega
    have f2 : IntKind.u8.wrap ((n : Int).tmod 128 + 128) = ((n % 128 + 128 : Nat) : Int) := by
      have e : (n : Int).tmod 128 = ((n % 128 : Nat) : Int) := by rw [Int.ofNat_tmod]; rfl
      rw [e, IntKind.wrap_u8]; omega
    have f2' : IntKind.u8.wrap ((n : Int) % 128 + 128) = ((n % 128 + 128 : Nat) : Int) := by rw [IntKind.wrap_u8]; omega
    have f3 : IntKind.u8.wrap ((n : Int).tdiv 128) = ((n / 128 : Nat) : Int) := by
      have e : (n : Int).tdiv 128 = ((n / 128 : Nat) : Int) := by rw [Int.ofNat_tdiv]; rfl
      rw [e, IntKind.wrap_u8]; omega
    have f3' : IntKind.u8.wrap ((n : Int) / 128) = ((n / 128 : Nat) : Int) := by rw [IntKind.wrap_u8]; omega
    have hd1 : decide ((128 : Int) ≤ (n : Int)) = true := by simp; omega
    have ha : n % 128 + 128 < 256 := by omega
    have hb : n / 128 < 256 := by omega
    generalize n % 256 = y at *
    generalize n % 128 + 128 = a at *
    generalize n / 128 = b at *
    have hcv : (convert 40 9 (.slice (some ⟨w.heap.size + 1, 0, none⟩) 2 2)).run Try.prog ((w.alloc (.cells #[.int .u8 y] 5)).alloc (.cells #[.int .u8 a, .int .u8 b] 5)) = .ok (.string ⟨#[UInt8.ofNat a, UInt8.ofNat b]⟩) _ := Gf.conv_nat (l := [a, b]) (by simp <;> omega) (by have h := Gf.heap_new (w.alloc (.cells #[.int .u8 y] 5)) (.cells #[.int .u8 a, .int .u8 b] 5); rw [Gf.alloc_size] at h; exact h)
    have bw := (Gf.below1 w (.cells #[.int .u8 y] 5)).alloc (Gf.below1 w (.cells #[.int .u8 y] 5)).size (.cells #[.int .u8 a, .int .u8 b] 5)
    obtain ⟨Q, hQ⟩ : ∃ Q, n - 2 = Q := ⟨_, rfl⟩
    replace hQ : Hid (n - 2 = Q) := hQ
    have hres : Hid ((⟨#[UInt8.ofNat a, UInt8.ofNat b]⟩ : ByteArray) ++ d ++ ⟨(Lib.repeatL [0] Q).toArray⟩ = ⟨(Gf.field d.data.toList z).toArray⟩) := by
      show _ = _
      rw [hfd.out, hc1, Gf.repeat0]
      have e : d = ⟨d.data.toList.toArray⟩ := rfl
      rw [e, show (⟨#[UInt8.ofNat a, UInt8.ofNat b]⟩ : ByteArray) = ⟨([UInt8.ofNat a, UInt8.ofNat b] : List UInt8).toArray⟩ from rfl, Gf.ba_app, Gf.ba_app, List.append_assoc]
      rw [show n - ([UInt8.ofNat a, UInt8.ofNat b] : List UInt8).length = Q from hQ.out]
    have hXs : Hid (((⟨#[UInt8.ofNat a, UInt8.ofNat b]⟩ : ByteArray) ++ d).size = 2 + d.size) := Gf.app_size _ _
    go_enter Try.func23, Try.ntmps23
    go_upto_region 6 with fail
    generalize (⟨#[UInt8.ofNat a, UInt8.ofNat b]⟩ : ByteArray) ++ d = X at *
    generalize (w.alloc (.cells #[.int .u8 y] 5)).alloc (.cells #[.int .u8 a, .int .u8 b] 5) = W at *
    have hsX : (z : Int) - (X.size : Int) = (Q : Int) := by have := hXs.out; have := hQ.out; have := hn.out; omega
    have hXb : X.size ≤ 5000 := by have := hXs.out; omega
    have hQb : Q ≤ 4096 := by have := hQ.out; omega
    have HR : Hid (∀ W, Below w.heap.size w W → Calls Try.prog 37 #[.string ⟨#[0]⟩, .int .i64 Q] W fun e w' => e = .returned (.string ⟨(Lib.repeatL [0] Q).toArray⟩) ∧ Below w.heap.size w w') := fun W hW =>
      (Try.strings_Repeat ⟨#[0]⟩ Q W (by omega) (by show 1 * Q ≤ _; omega)).mono fun e w' ⟨a, b⟩ => ⟨a, hW.trans (b.mono hW.size)⟩
    have hRs : (⟨(Lib.repeatL [0] Q).toArray⟩ : ByteArray).size ≤ 4096 := by show (Lib.repeatL [0] Q).length ≤ _; rw [Gf.repeat0, List.length_replicate]; exact hQb
    generalize (⟨(Lib.repeatL [0] Q).toArray⟩ : ByteArray) = R at *
    clear hcv
    go_wp2_with (go_at_call 37; refine (HR.out _ bw).mono ?_; rintro e w2 ⟨rfl, b2⟩)
    go_ret
    exact ⟨ret_s hres.out, b2⟩
end Go.Proofs.Ytpgjdobgfhhbiaa
