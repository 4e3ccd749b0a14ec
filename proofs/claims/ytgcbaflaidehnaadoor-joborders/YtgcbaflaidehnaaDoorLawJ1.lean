/-
  Walks of the laws of layer 5: one, awake.
-/
import Derived.Test.YtgcbaflaidehnaaDoorJLong
namespace Go.Proofs.YtgcbaflaidehnaaDoor
open Go.RowKit

namespace Job
theorem itoa_dig (n : Nat) (h : n < 10) : Lib.itoa (n : Int) = [UInt8.ofNat (48 + n)] := by
  have e : Lib.itoa (n : Int) = Lib.decDigits n := by unfold Lib.itoa; rw [if_neg (by omega)]; simp
  rw [e, Oct.dec_small h]
def one : Jb := ⟨110, 7, 2, ⟨#[97, 110, 110]⟩, ⟨#[47, 97]⟩, ⟨#[47, 98]⟩, ⟨#[114, 109, 97, 105, 108, 32, 98, 111, 98]⟩, 5⟩
def oneT : Bs := [69, 32, 110, 55, 32, 97, 110, 110, 32, 47, 97, 32, 47, 98, 32, 53, 32, 114, 109, 97, 105, 108, 32, 98, 111, 98]
theorem one_chk : chk one = 0 := by decide
theorem one_txt : txt one = oneT := by
  have h7 : Lib.itoa 7 = [55] := itoa_dig 7 (by omega)
  have h5 : Lib.itoa 5 = [53] := itoa_dig 5 (by omega)
  unfold txt ws one Nam.idT
  rw [h7, h5]
  rfl
theorem one_text : text one = (oneT, 0) := by unfold text; rw [if_pos one_chk, one_txt]
theorem one_parse : parse oneT = (one, 0) := parse_yes ⟨one_chk, one_txt⟩
end Job

/-- the job of the laws -/
abbrev oneCells : Array Value := #[.int .i64 110, .int .i64 7, .int .i64 2, .string ⟨#[97, 110, 110]⟩, .string ⟨#[47, 97]⟩, .string ⟨#[47, 98]⟩, .string ⟨#[114, 109, 97, 105, 108, 32, 98, 111, 98]⟩, .int .i64 5]
set_option maxHeartbeats 1000000 in
theorem one_any (w : World) : Calls Tryd.prog 9 #[] w fun e w' => e = .returned (.agg oneCells) ∧ Below w.heap.size w w' := by
  go_enter Tryd.func9, Tryd.ntmps9
  go_wp2
  exact bodyPost_ret (v := .agg oneCells) (by simp [results, Tryd.results9, go_sem]) rfl ⟨rfl, below_alloc1 _ _⟩

set_option maxHeartbeats 2000000 in
set_option maxRecDepth 100000 in
theorem awake_any (w : World) (hw : Ok w) : Calls Tryd.prog 5 #[] w fun e w' => e = .returned (.bool true) ∧ Below w.heap.size w w' := by
  have HO : Hid (∀ W, Calls Tryd.prog 9 #[] W fun e w' => e = .returned (.agg oneCells) ∧ Below W.heap.size W w') := one_any
  have HT : Hid (∀ W, Below w.heap.size w W → Calls Tryd.prog 8 #[.agg oneCells] W fun e w' => e = .returned (.tuple #[.string ⟨Job.oneT.toArray⟩, .int .i64 0]) ∧ Below w.heap.size w w') := fun W hW => by
    have h := jtext_any 110 7 2 ⟨#[97, 110, 110]⟩ ⟨#[47, 97]⟩ ⟨#[47, 98]⟩ ⟨#[114, 109, 97, 105, 108, 32, 98, 111, 98]⟩ 5 W (hw.below hW) (by decide) (by decide) (by decide) (by decide)
    have e := Job.one_text
    unfold Job.one at e
    rw [e] at h
    exact h.mono fun e w' ⟨h1, h2⟩ => ⟨h1, hW.trans (h2.mono hW.size)⟩
  have HP : Hid (∀ W, Below w.heap.size w W → Calls Tryd.prog 10 #[.string ⟨Job.oneT.toArray⟩] W fun e w' => e = .returned (.tuple #[.agg oneCells, .int .i64 0]) ∧ Below w.heap.size w w') := fun W hW => by
    have h := parse_any ⟨Job.oneT.toArray⟩ W (hw.below hW) (by decide)
    rw [show (⟨Job.oneT.toArray⟩ : ByteArray).data.toList = Job.oneT from rfl, Job.one_parse] at h
    exact h.mono fun e w' ⟨h1, h2⟩ => ⟨h1, hW.trans (h2.mono hW.size)⟩
  have hX : ((⟨Job.oneT.toArray⟩ : ByteArray).toList == [69, 32, 110, 55, 32, 97, 110, 110, 32, 47, 97, 32, 47, 98, 32, 53, 32, 114, 109, 97, 105, 108, 32, 98, 111, 98]) = true := by rw [tl_eq]; rfl
  generalize (⟨Job.oneT.toArray⟩ : ByteArray) = X at *
  clear hw
  go_enter Tryd.func5, Tryd.ntmps5
  go_upto_region 3 with (first
    | (go_at_call 9; refine (HO.out _).mono ?_; rintro e w1 ⟨rfl, b1⟩)
    | (go_at_call 8; refine (HT.out _ (by assumption)).mono ?_; rintro e w1 ⟨rfl, b1⟩)
    | (go_at_call 10; refine (HP.out _ (by assumption)).mono ?_; rintro e w1 ⟨rfl, b1⟩))
  have bA : Below w.heap.size w (w1.alloc (.cells oneCells 29)) := b1.alloc b1.size _
  have HO2 : Hid (∀ W, Below (w1.alloc (.cells oneCells 29)).heap.size (w1.alloc (.cells oneCells 29)) W → Calls Tryd.prog 9 #[] W fun e w' => e = .returned (.agg oneCells) ∧ Below (w1.alloc (.cells oneCells 29)).heap.size (w1.alloc (.cells oneCells 29)) w' ∧ Keeps w1.heap.size 110 7 2 ⟨#[97, 110, 110]⟩ ⟨#[47, 97]⟩ ⟨#[47, 98]⟩ ⟨#[114, 109, 97, 105, 108, 32, 98, 111, 98]⟩ 5 w') := fun W hW => chain (keeps_new _ _ _ _ _ _ _ _ _ _) (by simp) hW (HO.out W)
  obtain ⟨j0, j1, j2, j3, j4, j5, j6, j7⟩ := keeps_new 110 7 2 ⟨#[97, 110, 110]⟩ ⟨#[47, 97]⟩ ⟨#[47, 98]⟩ ⟨#[114, 109, 97, 105, 108, 32, 98, 111, 98]⟩ 5 w1 29
  go_region_held3 (fun w' => w'.cell? ⟨w1.heap.size, 0, none⟩ = some (.int .i64 110) ∧ w'.cell? ⟨w1.heap.size, 1, none⟩ = some (.int .i64 7) ∧ w'.cell? ⟨w1.heap.size, 2, none⟩ = some (.int .i64 2) ∧ w'.cell? ⟨w1.heap.size, 3, none⟩ = some (.string ⟨#[97, 110, 110]⟩) ∧ w'.cell? ⟨w1.heap.size, 4, none⟩ = some (.string ⟨#[47, 97]⟩) ∧ w'.cell? ⟨w1.heap.size, 5, none⟩ = some (.string ⟨#[47, 98]⟩) ∧ w'.cell? ⟨w1.heap.size, 6, none⟩ = some (.string ⟨#[114, 109, 97, 105, 108, 32, 98, 111, 98]⟩) ∧ w'.cell? ⟨w1.heap.size, 7, none⟩ = some (.int .i64 5)) (go_keep) (first
    | (go_at_call 9; refine (HO2.out _ ?_).mono ?_; (first | assumption | exact Below.drew (Below.refl _ _)); rintro e w2 ⟨rfl, b2, k0, k1, k2, k3, k4, k5, k6, k7⟩))
  all_goals
    go_wp2
    go_ret
    exact ⟨rfl, by first | exact bA.trans (b2.mono bA.size) | exact (bA.trans (b2.mono bA.size)).drew⟩
end Go.Proofs.YtgcbaflaidehnaaDoor
