/-
  Layer 6: the statements' awake.
-/
import Derived.Test.YtempiajepomajaaDk18
namespace Go.Proofs.Ytempiajepomajaa
open Go.RowKit

namespace Dsk
def dA : Dk := ⟨[], [⟨1, ⟨#[97]⟩, ByteArray.empty, ⟨#[120, 121]⟩⟩], 100, -1, false⟩
theorem dA_ok : Ok dA := ⟨List.Pairwise.nil, by show 0 + (2 + 16 + 0) ≤ 10000000000; omega, by show (-1 : Int) ≤ -1; omega, by show (-1 : Int) ≤ _; omega⟩
theorem new_ok (n : Int) : Ok (new n) := ⟨List.Pairwise.nil, by show 0 + 0 ≤ 10000000000; omega, by show (-1 : Int) ≤ -1; omega, by show (-1 : Int) ≤ _; omega⟩
theorem files_dA : files dA = [⟨⟨#[97]⟩, ⟨#[120, 121]⟩⟩] := rfl
theorem write_dA : write (new 100) ⟨#[97]⟩ ⟨#[120, 121]⟩ = (dA, 0) := by
  have h1 : isName ⟨#[97]⟩ = true := by decide
  have h2 : (used (files (note (new 100) ⟨1, ⟨#[97]⟩, ByteArray.empty, ⟨#[120, 121]⟩⟩)) : Int) = 18 := rfl
  have h3 : (new 100).cap = 100 := rfl
  unfold write fill
  rw [if_neg (by decide), if_pos h1, h2, h3, if_neg (by decide)]
  rfl
theorem read_dA : read dA ⟨#[97]⟩ = (⟨#[120, 121]⟩, 0) := by
  unfold read
  rw [files_dA, if_neg (by decide)]
  have : get [⟨⟨#[97]⟩, ⟨#[120, 121]⟩⟩] ⟨#[97]⟩ = some ⟨#[120, 121]⟩ := by
    rw [get, if_neg (by rw [lt_irrefl]; simp), if_pos rfl]
  rw [this]
theorem crash_dA : crash dA 0 = ⟨[], [], 100, -1, true⟩ := rfl
end Dsk

set_option maxHeartbeats 2000000 in
set_option maxRecDepth 100000 in
theorem awake_any (w : World) : Calls Try.prog 5 #[] w fun e w' => VPost (.bool true) w e w' := by
  have HN : Hid (∀ W, Calls Try.prog 6 #[.int .i64 100] W fun e w' => VPost (.agg #[.slice none 0 0, .slice none 0 0, .int .i64 100, .int .i64 (-1), .bool false]) W e w') := fun W => (new_any 100 W).mono fun e w' ⟨h1, h2⟩ => ⟨h1, h2⟩
  have HW : Hid (∀ W, Calls Try.prog 21 #[.agg #[.slice none 0 0, .slice none 0 0, .int .i64 100, .int .i64 (-1), .bool false], .string ⟨#[97]⟩, .string ⟨#[120, 121]⟩] W fun e w' => DEx W (Dsk.dA, 0) e w') := fun W => by
    have := write_any _ (Dsk.new 100) ⟨#[97]⟩ ⟨#[120, 121]⟩ W (Dsk.new_ok 100) (by show 0 + 0 + 2 + 16 ≤ 10000000000; omega) (by decide) ⟨none, 0, none, 0, rfl, .inl ⟨rfl, rfl⟩, .inl ⟨rfl, rfl⟩, Nat.le_refl _, Nat.le_refl _⟩
    rw [Dsk.write_dA] at this
    exact this.mono fun e w' q => q.ex
  have HR : Hid (∀ W v, DAt W v Dsk.dA → Calls Try.prog 10 #[v, .string ⟨#[97]⟩] W fun e w' => VPost (.tuple #[.string ⟨#[120, 121]⟩, .int .i64 0]) W e w') := fun W v hv => by
    have := read_any v Dsk.dA ⟨#[97]⟩ W Dsk.dA_ok hv
    rw [Dsk.read_dA] at this
    exact this
  have HU : Hid (∀ W v, DAt W v Dsk.dA → Calls Try.prog 16 #[v] W fun e w' => VPost (.int .i64 18) W e w') := fun W v hv => used_any v Dsk.dA W Dsk.dA_ok hv
  have HC : Hid (∀ W v, DAt W v Dsk.dA → Calls Try.prog 22 #[v, .int .i64 0] W fun e w' => NEx W ⟨[], [], 100, -1, true⟩ e w') := fun W v hv => (crash_any v Dsk.dA 0 W Dsk.dA_ok hv).mono fun e w' q => q.ex
  have HL : Hid (∀ W v, DAt W v ⟨[], [], 100, -1, true⟩ → Calls Try.prog 12 #[v] W fun e w' => ∃ a c, e = .returned (.slice a 0 c) ∧ Below W.heap.size W w') := fun W v hv => (list_any v ⟨[], [], 100, -1, true⟩ W ⟨List.Pairwise.nil, by show 0 + 0 ≤ 10000000000; omega, by show (-1 : Int) ≤ -1; omega, by show (-1 : Int) ≤ _; omega⟩ hv).mono fun e w' ⟨a, c, h1, _, _, h4⟩ => ⟨a, c, h1, h4⟩
  generalize Dsk.dA = d1 at *
  go_enter Try.func5, Try.ntmps5
  go_wp2_with (go_at_call 6; refine (HN.out _).mono ?_)
  rintro e w1 ⟨rfl, hb1⟩
  go_wp2_with (go_at_call 21; refine (HW.out _).mono ?_)
  rintro e w2 ⟨sa', sn', sc', oa', on', oc', cp', fs', dn', rfl, hD, hb2⟩
  have hbw := Rg.chain hb1 hb2
  have hD2 := Rg.hid (hD.below (Rg.al1 w2 (.cells #[.slice sa' sn' sc', .slice oa' on' oc', .int .i64 cp', .int .i64 fs', .bool dn'] 28)))
  clear hb1 hb2 HN HW hD
  go_wp2_with (go_at_call 10; refine (HR.out _ _ hD2.out).mono ?_)
  rintro e w3 ⟨rfl, hb3⟩
  have kB : Rg.Bk w2.heap.size [.slice sa' sn' sc', .slice oa' on' oc', .int .i64 cp', .int .i64 fs', .bool dn'] 28 w3 := Rg.Bk.below (Rg.Bk.new rfl) hb3 (by simp)
  have hD3 := Rg.hid (hD2.out.below hb3)
  have hbw3 := Rg.chain (Rg.chain hbw (Rg.al1 _ _)) hb3
  have b0 : w3.cell? ⟨w2.heap.size, 0, none⟩ = some (.slice sa' sn' sc') := kB.cell 0
  have b1 : w3.cell? ⟨w2.heap.size, 1, none⟩ = some (.slice oa' on' oc') := kB.cell 1
  have b2 : w3.cell? ⟨w2.heap.size, 2, none⟩ = some (.int .i64 cp') := kB.cell 2
  have b3 : w3.cell? ⟨w2.heap.size, 3, none⟩ = some (.int .i64 fs') := kB.cell 3
  have b4 : w3.cell? ⟨w2.heap.size, 4, none⟩ = some (.bool dn') := kB.cell 4
  clear hb3 hD2 HR hbw
  go_wp2_with (go_at_call 16; refine (HU.out _ _ hD3.out).mono ?_)
  rintro e w4 ⟨rfl, hb4⟩
  have kB4 := kB.below hb4 kB.lt
  have hD4 := Rg.hid (hD3.out.below hb4)
  have hbw4 := Rg.chain hbw3 hb4
  clear b0 b1 b2 b3 b4
  have b0 : w4.cell? ⟨w2.heap.size, 0, none⟩ = some (.slice sa' sn' sc') := kB4.cell 0
  have b1 : w4.cell? ⟨w2.heap.size, 1, none⟩ = some (.slice oa' on' oc') := kB4.cell 1
  have b2 : w4.cell? ⟨w2.heap.size, 2, none⟩ = some (.int .i64 cp') := kB4.cell 2
  have b3 : w4.cell? ⟨w2.heap.size, 3, none⟩ = some (.int .i64 fs') := kB4.cell 3
  have b4 : w4.cell? ⟨w2.heap.size, 4, none⟩ = some (.bool dn') := kB4.cell 4
  clear hb4 hD3 HU hbw3 kB
  go_wp2_with (go_at_call 22; refine (HC.out _ _ hD4.out).mono ?_)
  rintro e w5 ⟨sa5, sn5, sc5, oa5, on5, oc5, cp5, fs5, dn5, rfl, hD5, hb5⟩
  have hbw5 := Rg.chain hbw4 hb5
  replace hD5 := Rg.hid hD5
  clear b0 b1 b2 b3 b4 kB4 hbw4 hb5
  go_wp2_with (go_at_call 12; refine (HL.out _ _ hD5.out).mono ?_)
  rintro e w6 ⟨a6, c6, rfl, hb6⟩
  go_wp2
  go_ret
  exact ⟨rfl, Rg.chain hbw5 hb6⟩
end Go.Proofs.Ytempiajepomajaa
