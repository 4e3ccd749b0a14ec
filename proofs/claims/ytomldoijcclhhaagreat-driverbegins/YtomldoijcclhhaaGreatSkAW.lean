/-
  Walks of layer 12: Write. Walks of layer 16: what an end says: a packet; sync, ack, nak, close. Walks of layer 16: a number in two bytes and in one; an end says sync, and a text.
-/
import Derived.Test.YtomldoijcclhhaaGreatSkAU
import Derived.Test.YtomldoijcclhhaaGreatSkAV
import Derived.Deep.QuietTactic
namespace Go.Proofs.YtomldoijcclhhaaGreat
open Go.RowKit
set_option maxHeartbeats 1000000 in
theorem iwrite_no0 (k n a c : Int) (b : Bool) (d : ByteArray) (w : World)
    (HK : Hid (∀ W, Calls Tryz.prog 161 #[.int .i64 k] W fun e w' => e = .returned (.bool false) ∧ w' = W)) :
    Calls Tryz.prog 131 #[.agg #[.int .i64 k, .int .i64 n, .int .i64 a, .int .i64 c, .bool b, .string d]] w fun e w' => e = .returned (.tuple #[.string ⟨#[]⟩, .int .i64 1]) ∧ Below w.heap.size w w' := by
  have bw := If.below1 w (.cells #[.int .i64 k, .int .i64 n, .int .i64 a, .int .i64 c, .bool b, .string d] 55)
  go_enter Tryz.func131, Tryz.ntmps131
  go_wp2_with (first
    | (go_at_call 161; refine (HK.out _).mono ?_; rintro e w2 ⟨rfl, rfl⟩))
  go_ret2
  exact ⟨rfl, bw⟩
set_option maxHeartbeats 1000000 in
theorem iwrite_no1 (k n a c : Int) (b : Bool) (d : ByteArray) (w : World)
    (HK : Hid (∀ W, Calls Tryz.prog 161 #[.int .i64 k] W fun e w' => e = .returned (.bool true) ∧ w' = W))
    (HN : Hid (∀ W, Calls Tryz.prog 172 #[.int .i64 n, .int .i64 31] W fun e w' => e = .returned (.bool false) ∧ w' = W)) :
    Calls Tryz.prog 131 #[.agg #[.int .i64 k, .int .i64 n, .int .i64 a, .int .i64 c, .bool b, .string d]] w fun e w' => e = .returned (.tuple #[.string ⟨#[]⟩, .int .i64 1]) ∧ Below w.heap.size w w' := by
  have bw := If.below1 w (.cells #[.int .i64 k, .int .i64 n, .int .i64 a, .int .i64 c, .bool b, .string d] 55)
  go_enter Tryz.func131, Tryz.ntmps131
  go_wp2_with (first
    | (go_at_call 161; refine (HK.out _).mono ?_; rintro e w2 ⟨rfl, rfl⟩)
    | (go_at_call 172; (first | with_reducible refine (HN.out _).mono ?_); rintro e w2 ⟨rfl, rfl⟩))
  go_ret2
  exact ⟨rfl, bw⟩
set_option maxHeartbeats 1000000 in
theorem iwrite_no2 (k n a c : Int) (b : Bool) (d : ByteArray) (w : World)
    (HK : Hid (∀ W, Calls Tryz.prog 161 #[.int .i64 k] W fun e w' => e = .returned (.bool true) ∧ w' = W))
    (HN : Hid (∀ W, Calls Tryz.prog 172 #[.int .i64 n, .int .i64 31] W fun e w' => e = .returned (.bool true) ∧ w' = W))
    (HA : Hid (∀ W, Calls Tryz.prog 172 #[.int .i64 a, .int .i64 31] W fun e w' => e = .returned (.bool false) ∧ w' = W)) :
    Calls Tryz.prog 131 #[.agg #[.int .i64 k, .int .i64 n, .int .i64 a, .int .i64 c, .bool b, .string d]] w fun e w' => e = .returned (.tuple #[.string ⟨#[]⟩, .int .i64 1]) ∧ Below w.heap.size w w' := by
  have bw := If.below1 w (.cells #[.int .i64 k, .int .i64 n, .int .i64 a, .int .i64 c, .bool b, .string d] 55)
  go_enter Tryz.func131, Tryz.ntmps131
  go_wp2_with (first
    | (go_at_call 161; refine (HK.out _).mono ?_; rintro e w2 ⟨rfl, rfl⟩)
    | (go_at_call 172; (first | with_reducible refine (HN.out _).mono ?_ | with_reducible refine (HA.out _).mono ?_); rintro e w2 ⟨rfl, rfl⟩))
  go_ret2
  exact ⟨rfl, bw⟩
set_option maxHeartbeats 1000000 in
theorem iwrite_no3 (k n a c : Int) (b : Bool) (d : ByteArray) (w : World)
    (HK : Hid (∀ W, Calls Tryz.prog 161 #[.int .i64 k] W fun e w' => e = .returned (.bool true) ∧ w' = W))
    (HN : Hid (∀ W, Calls Tryz.prog 172 #[.int .i64 n, .int .i64 31] W fun e w' => e = .returned (.bool true) ∧ w' = W))
    (HA : Hid (∀ W, Calls Tryz.prog 172 #[.int .i64 a, .int .i64 31] W fun e w' => e = .returned (.bool true) ∧ w' = W))
    (HC : Hid (∀ W, Calls Tryz.prog 172 #[.int .i64 c, .int .i64 7] W fun e w' => e = .returned (.bool false) ∧ w' = W)) :
    Calls Tryz.prog 131 #[.agg #[.int .i64 k, .int .i64 n, .int .i64 a, .int .i64 c, .bool b, .string d]] w fun e w' => e = .returned (.tuple #[.string ⟨#[]⟩, .int .i64 1]) ∧ Below w.heap.size w w' := by
  have bw := If.below1 w (.cells #[.int .i64 k, .int .i64 n, .int .i64 a, .int .i64 c, .bool b, .string d] 55)
  go_enter Tryz.func131, Tryz.ntmps131
  go_wp2_with (first
    | (go_at_call 161; refine (HK.out _).mono ?_; rintro e w2 ⟨rfl, rfl⟩)
    | (go_at_call 172; (first | with_reducible refine (HN.out _).mono ?_ | with_reducible refine (HA.out _).mono ?_ | with_reducible refine (HC.out _).mono ?_); rintro e w2 ⟨rfl, rfl⟩))
  go_ret2
  exact ⟨rfl, bw⟩
set_option maxHeartbeats 1000000 in
theorem iwrite_long (k n a c : Int) (b : Bool) (d : ByteArray) (w : World) (hl : decide ((4096 : Int) ≤ (d.size : Int)) = true)
    (HK : Hid (∀ W, Calls Tryz.prog 161 #[.int .i64 k] W fun e w' => e = .returned (.bool true) ∧ w' = W))
    (HN : Hid (∀ W, Calls Tryz.prog 172 #[.int .i64 n, .int .i64 31] W fun e w' => e = .returned (.bool true) ∧ w' = W))
    (HA : Hid (∀ W, Calls Tryz.prog 172 #[.int .i64 a, .int .i64 31] W fun e w' => e = .returned (.bool true) ∧ w' = W))
    (HC : Hid (∀ W, Calls Tryz.prog 172 #[.int .i64 c, .int .i64 7] W fun e w' => e = .returned (.bool true) ∧ w' = W)) :
    Calls Tryz.prog 131 #[.agg #[.int .i64 k, .int .i64 n, .int .i64 a, .int .i64 c, .bool b, .string d]] w fun e w' => e = .returned (.tuple #[.string ⟨#[]⟩, .int .i64 5]) ∧ Below w.heap.size w w' := by
  have bw := If.below1 w (.cells #[.int .i64 k, .int .i64 n, .int .i64 a, .int .i64 c, .bool b, .string d] 55)
  go_enter Tryz.func131, Tryz.ntmps131
  go_wp2_with (first
    | (go_at_call 161; refine (HK.out _).mono ?_; rintro e w2 ⟨rfl, rfl⟩)
    | (go_at_call 172; (first | with_reducible refine (HN.out _).mono ?_ | with_reducible refine (HA.out _).mono ?_ | with_reducible refine (HC.out _).mono ?_); rintro e w2 ⟨rfl, rfl⟩))
  go_ret2
  exact ⟨rfl, bw⟩
set_option maxHeartbeats 2000000 in
theorem iwrite_yes (k n a c : Int) (b : Bool) (d : ByteArray) (w : World) (hl : decide ((4096 : Int) ≤ (d.size : Int)) = false) (X Y : ByteArray) (hX : X.size ≤ 6) (hY : Y.size ≤ 4100)
    (HK : Hid (∀ W, Calls Tryz.prog 161 #[.int .i64 k] W fun e w' => e = .returned (.bool true) ∧ w' = W))
    (HN : Hid (∀ W, Calls Tryz.prog 172 #[.int .i64 n, .int .i64 31] W fun e w' => e = .returned (.bool true) ∧ w' = W))
    (HA : Hid (∀ W, Calls Tryz.prog 172 #[.int .i64 a, .int .i64 31] W fun e w' => e = .returned (.bool true) ∧ w' = W))
    (HC : Hid (∀ W, Calls Tryz.prog 172 #[.int .i64 c, .int .i64 7] W fun e w' => e = .returned (.bool true) ∧ w' = W))
    (HH : Hid (∀ W, Below w.heap.size w W → Rg.Bk w.heap.size [.int .i64 k, .int .i64 n, .int .i64 a, .int .i64 c, .bool b, .string d] 55 W → Calls Tryz.prog 162 #[.agg #[.int .i64 k, .int .i64 n, .int .i64 a, .int .i64 c, .bool b, .string d], .int .i64 d.size] W fun e w' => e = .returned (.string X) ∧ Below w.heap.size w w' ∧ Rg.Bk w.heap.size [.int .i64 k, .int .i64 n, .int .i64 a, .int .i64 c, .bool b, .string d] 55 w'))
    (HB : Hid (∀ W, Below w.heap.size w W → Rg.Bk w.heap.size [.int .i64 k, .int .i64 n, .int .i64 a, .int .i64 c, .bool b, .string d] 55 W → Calls Tryz.prog 173 #[.string d] W fun e w' => e = .returned (.string Y) ∧ Below w.heap.size w w' ∧ Rg.Bk w.heap.size [.int .i64 k, .int .i64 n, .int .i64 a, .int .i64 c, .bool b, .string d] 55 w')) :
    Calls Tryz.prog 131 #[.agg #[.int .i64 k, .int .i64 n, .int .i64 a, .int .i64 c, .bool b, .string d]] w fun e w' => e = .returned (.tuple #[.string (X ++ Y), .int .i64 0]) ∧ Below w.heap.size w w' := by
  have bw := If.below1 w (.cells #[.int .i64 k, .int .i64 n, .int .i64 a, .int .i64 c, .bool b, .string d] 55)
  have k0 : Rg.Bk w.heap.size [.int .i64 k, .int .i64 n, .int .i64 a, .int .i64 c, .bool b, .string d] 55 (w.alloc (.cells #[.int .i64 k, .int .i64 n, .int .i64 a, .int .i64 c, .bool b, .string d] 55)) := Rg.Bk.new rfl
  have hsum : ¬ 9223372036854775807 < X.size + Y.size := by omega
  go_enter Tryz.func131, Tryz.ntmps131
  go_upto_region 5 with (first
    | (go_at_call 161; refine (HK.out _).mono ?_; rintro e w2 ⟨rfl, rfl⟩)
    | (go_at_call 172; (first | with_reducible refine (HN.out _).mono ?_ | with_reducible refine (HA.out _).mono ?_ | with_reducible refine (HC.out _).mono ?_); rintro e w2 ⟨rfl, rfl⟩))
  have c0 := k0.cell 0; have c1 := k0.cell 1; have c2 := k0.cell 2; have c3 := k0.cell 3; have c4 := k0.cell 4; have c5 := k0.cell 5; simp only [List.getElem?_cons_zero, List.getElem?_cons_succ] at c0 c1 c2 c3 c4 c5
  generalize w.alloc (.cells #[.int .i64 k, .int .i64 n, .int .i64 a, .int .i64 c, .bool b, .string d] 55) = W at *
  generalize hB : w.heap.size = B at *
  replace hB := Rg.hid hB
  go_region_held3 (fun w' => w'.cell? ⟨B, 0, none⟩ = some (.int .i64 k) ∧ w'.cell? ⟨B, 1, none⟩ = some (.int .i64 n) ∧ w'.cell? ⟨B, 2, none⟩ = some (.int .i64 a) ∧ w'.cell? ⟨B, 3, none⟩ = some (.int .i64 c) ∧ w'.cell? ⟨B, 4, none⟩ = some (.bool b) ∧ w'.cell? ⟨B, 5, none⟩ = some (.string d)) (go_keep) (first
    | (go_at_call 162; refine (HH.out _ ?_ ?_).mono ?_; (first | exact bw | exact bw.drew); (first | exact k0 | exact k0.drew); rintro e w2 ⟨rfl, b2, k2⟩; have e0 := k2.cell 0; have e1 := k2.cell 1; have e2 := k2.cell 2; have e3 := k2.cell 3; have e4 := k2.cell 4; have e5 := k2.cell 5; simp only [List.getElem?_cons_zero, List.getElem?_cons_succ] at e0 e1 e2 e3 e4 e5)
    | (go_at_call 173; refine (HB.out _ ?_ ?_).mono ?_; (first | exact b2 | exact b2.drew); (first | exact k2 | exact k2.drew); rintro e w3 ⟨rfl, b3, k3⟩; have d0 := k3.cell 0; have d1 := k3.cell 1; have d2 := k3.cell 2; have d3 := k3.cell 3; have d4 := k3.cell 4; have d5 := k3.cell 5; simp only [List.getElem?_cons_zero, List.getElem?_cons_succ] at d0 d1 d2 d3 d4 d5))
  go_wp2
  go_ret2
  exact ⟨rfl, by rw [hB.out]; first | exact b3 | exact b3.drew⟩
/-- What Write answers. -/
def If.wr (f : If.Fr) : List UInt8 × Nat := if If.kind f.kd = true ∧ (0 ≤ f.nm ∧ f.nm ≤ 31) ∧ (0 ≤ f.ak ∧ f.ak ≤ 31) ∧ (0 ≤ f.ch ∧ f.ch ≤ 7) then (if 4096 ≤ f.data.length then ([], 5) else (If.text f, 0)) else ([], 1)
theorem If.wr_ok {f : If.Fr} (h : If.ok f) : If.wr f = (If.text f, 0) := by
  have h2 := h.2
  unfold If.wr
  rw [if_pos (show _ ∧ _ from h.1), if_neg (by omega)]
theorem iwrite_any (k n a c : Int) (b : Bool) (d : ByteArray) (w : World) :
    Calls Tryz.prog 131 #[.agg #[.int .i64 k, .int .i64 n, .int .i64 a, .int .i64 c, .bool b, .string d]] w fun e w' => e = .returned (.tuple #[.string ⟨(If.wr ⟨k, n, a, c, b, d.data.toList⟩).1.toArray⟩, .int .i64 ((If.wr ⟨k, n, a, c, b, d.data.toList⟩).2 : Nat)]) ∧ Below w.heap.size w w' := by
  have HK := fun W => isKind_any k W
  have HN := fun W => isUpTo_any n 31 W
  have HA := fun W => isUpTo_any a 31 W
  have HC := fun W => isUpTo_any c 7 W
  cases hk : If.kind k with
  | false =>
    rw [hk] at HK
    rw [show If.wr ⟨k, n, a, c, b, d.data.toList⟩ = ([], 1) by unfold If.wr; rw [if_neg (by rw [hk]; simp)]]
    exact iwrite_no0 k n a c b d w HK
  | true =>
    rw [hk] at HK
    by_cases hn : ¬ (0 ≤ n ∧ n ≤ 31)
    · rw [decide_eq_false hn] at HN
      rw [show If.wr ⟨k, n, a, c, b, d.data.toList⟩ = ([], 1) by unfold If.wr; rw [if_neg fun h => hn h.2.1]]
      exact iwrite_no1 k n a c b d w HK HN
    have hn := Decidable.not_not.1 hn
    rw [decide_eq_true hn] at HN
    by_cases ha : ¬ (0 ≤ a ∧ a ≤ 31)
    · rw [decide_eq_false ha] at HA
      rw [show If.wr ⟨k, n, a, c, b, d.data.toList⟩ = ([], 1) by unfold If.wr; rw [if_neg fun h => ha h.2.2.1]]
      exact iwrite_no2 k n a c b d w HK HN HA
    have ha := Decidable.not_not.1 ha
    rw [decide_eq_true ha] at HA
    by_cases hc : ¬ (0 ≤ c ∧ c ≤ 7)
    · rw [decide_eq_false hc] at HC
      rw [show If.wr ⟨k, n, a, c, b, d.data.toList⟩ = ([], 1) by unfold If.wr; rw [if_neg fun h => hc h.2.2.2]]
      exact iwrite_no3 k n a c b d w HK HN HA HC
    have hc := Decidable.not_not.1 hc
    rw [decide_eq_true hc] at HC
    have hargs : If.kind k = true ∧ (0 ≤ n ∧ n ≤ 31) ∧ (0 ≤ a ∧ a ≤ 31) ∧ (0 ≤ c ∧ c ≤ 7) := ⟨hk, hn, ha, hc⟩
    have hle := If.len_eq d
    by_cases hl : 4096 ≤ d.size
    · rw [show If.wr ⟨k, n, a, c, b, d.data.toList⟩ = ([], 5) by unfold If.wr; rw [if_pos hargs, if_pos (by dsimp only; omega)]]
      exact iwrite_long k n a c b d w (by simp; omega) HK HN HA HC
    · rw [show If.wr ⟨k, n, a, c, b, d.data.toList⟩ = (If.text ⟨k, n, a, c, b, d.data.toList⟩, 0) by unfold If.wr; rw [if_pos hargs, if_neg (by dsimp only; omega)]]
      have hkl := If.kind_lt hk
      obtain ⟨k, rfl⟩ : ∃ m : Nat, k = (m : Int) := ⟨k.toNat, by omega⟩
      obtain ⟨n, rfl⟩ : ∃ m : Nat, n = (m : Int) := ⟨n.toNat, by omega⟩
      obtain ⟨a, rfl⟩ : ∃ m : Nat, a = (m : Int) := ⟨a.toNat, by omega⟩
      obtain ⟨c, rfl⟩ : ∃ m : Nat, c = (m : Int) := ⟨c.toNat, by omega⟩
      have HH := fun W => head_any k n a c d.size b d (by omega) (by omega) (by omega) (by omega) (by omega) W
      have HB := fun W => body_any d (by omega) W
      have hs := If.body_len d.data.toList
      have hs2 := If.bsz_le d.data.toList.length
      have h := iwrite_yes k n a c b d w (by simp; omega) ⟨(If.hd k n a c b d.size).toArray⟩ ⟨(If.body d.data.toList).toArray⟩ (Nat.le_refl 6) (by rw [If.size_of]; omega) HK HN HA HC (ikeepF w HH) (ikeepF w HB)
      rw [If.ba_app] at h
      unfold If.text
      simp only [Int.toNat_natCast]
      rw [hle]
      exact h
end Go.Proofs.YtomldoijcclhhaaGreat

namespace Go.Proofs.YtomldoijcclhhaaGreat
open Go.RowKit
set_option maxHeartbeats 1000000 in
set_option maxRecDepth 100000 in
theorem ilast_go (eb : Nat) (x y z r : Int) (w : World) (c : w.cell? ⟨eb, 10, none⟩ = some (.int .i64 x)) (h1 : wrap64 (x + 32) = y) (h2 : wrap64 (y - 1) = z) (h3 : z.tmod 32 = r) :
    Calls Tryz.prog 130 #[.pointer (some ⟨eb, 0, none⟩)] w fun e w' => e = .returned (.int .i64 r) ∧ w' = w := by
  go_enter Tryz.func130, Tryz.ntmps130
  go_wp2
  go_ret
  exact ⟨rfl, rfl⟩
theorem ilast_any {eb : Nat} {W : World} {d : Gp.Dr} {p : Pl} {q : Qv} (h : Rg.Bk eb (IC d p q) 81 W) (hw : 0 ≤ d.wants ∧ d.wants ≤ 31) :
    Calls Tryz.prog 130 #[.pointer (some ⟨eb, 0, none⟩)] W fun e w' => e = .returned (.int .i64 (Ip.last d)) ∧ w' = W :=
  ilast_go eb d.wants (d.wants + 32) (d.wants + 32 - 1) _ W (h.cell 10) (by unfold wrap64; omega) (by unfold wrap64; omega) (by unfold Ip.last; rw [Int.tmod_eq_emod_of_nonneg (by omega)]; omega)
set_option maxHeartbeats 2000000 in
set_option maxRecDepth 100000 in
theorem isay_go (eb : Nat) (kd nm ak ch l : Int) (ca0 ca : Bool) (D X : ByteArray) (w : World) (Post : Ending → World → Prop) (c2 : w.cell? ⟨eb, 2, none⟩ = some (.bool ca)) (hlt : Hid (eb < w.heap.size))
    (HL : Hid (∀ W, Below w.heap.size w W → Calls Tryz.prog 130 #[.pointer (some ⟨eb, 0, none⟩)] W fun e w' => e = .returned (.int .i64 l) ∧ w' = W))
    (HW : Hid (∀ W, Calls Tryz.prog 131 #[.agg #[.int .i64 kd, .int .i64 nm, .int .i64 l, .int .i64 ch, .bool ca, .string D]] W fun e w' => e = .returned (.tuple #[.string X, .int .i64 0]) ∧ Below W.heap.size W w'))
    (HS : Hid (∀ W, Below w.heap.size w W → Calls Tryz.prog 101 #[.pointer (some ⟨eb, 18, none⟩), .string X] W fun e w' => e = .returned (.tuple #[.int .i64 X.size, .nilIface]) ∧ Post (.returned (.tuple #[])) w')) :
    Calls Tryz.prog 105 #[.pointer (some ⟨eb, 0, none⟩), .agg #[.int .i64 kd, .int .i64 nm, .int .i64 ak, .int .i64 ch, .bool ca0, .string D]] w Post := by
  have kO : Hid (Rg.Bk w.heap.size [.int .i64 kd, .int .i64 nm, .int .i64 ak, .int .i64 ch, .bool ca0, .string D] 55 (w.alloc (.cells #[.int .i64 kd, .int .i64 nm, .int .i64 ak, .int .i64 ch, .bool ca0, .string D] 55))) := Rg.Bk.new rfl
  have b0 := Rg.hid (Rg.al1 w (.cells #[.int .i64 kd, .int .i64 nm, .int .i64 ak, .int .i64 ch, .bool ca0, .string D] 55))
  go_enter Tryz.func105, Tryz.ntmps105
  go_upto_region 1 with fail
  have d2 : (w.alloc (.cells #[.int .i64 kd, .int .i64 nm, .int .i64 ak, .int .i64 ch, .bool ca0, .string D] 55)).cell? ⟨eb, 2, none⟩ = some (.bool ca) := by rw [← c2]; exact World.cell?_of_block (a := ⟨eb, 2, none⟩) (b0.out.block eb hlt.out)
  generalize World.alloc _ _ = w1 at *
  obtain ⟨BO, hBO⟩ : ∃ B, B = w.heap.size := ⟨_, rfl⟩
  rw [← hBO] at kO ⊢
  have hne : Hid (w.heap.size ≤ BO) := by show _ ≤ _; omega
  have hneB : ¬ BO = eb := by have := hlt.out; omega
  replace hBO := Rg.hid hBO
  have f2 : w1.cell? ⟨BO, 2, none⟩ = some (.int .i64 ak) := kO.out.cell 2
  have f4 : w1.cell? ⟨BO, 4, none⟩ = some (.bool ca0) := kO.out.cell 4
  have fz := kO.out.thaw
  have bd := Rg.hid b0.out.drew
  have kF : Hid (Rg.Bk BO [.int .i64 kd, .int .i64 nm, .int .i64 l, .int .i64 ch, .bool ca, .string D] 55 ((w1.setCell ⟨BO, 4, none⟩ (.bool ca)).setCell ⟨BO, 2, none⟩ (.int .i64 l)).drew) := ((kO.out.set 4 (.bool ca)).set 2 (.int .i64 l)).drew
  have bF : Hid (Below w.heap.size w ((w1.setCell ⟨BO, 4, none⟩ (.bool ca)).setCell ⟨BO, 2, none⟩ (.int .i64 l)).drew) := ((b0.out.setCell (p := ⟨BO, 4, none⟩) hne.out _).setCell (p := ⟨BO, 2, none⟩) hne.out _).drew
  clear kO c2 b0
  go_region_with (go_at_call 130; refine (HL.out _ bd.out).mono ?_; rintro e w2 ⟨rfl, hw⟩; obtain rfl := hw.symm)
  all_goals
    clear bd HL
    generalize World.drew _ = w3 at *
    have g0 : w3.cell? ⟨BO, 0, none⟩ = some (.int .i64 kd) := kF.out.cell 0
    have g1 : w3.cell? ⟨BO, 1, none⟩ = some (.int .i64 nm) := kF.out.cell 1
    have g2 : w3.cell? ⟨BO, 2, none⟩ = some (.int .i64 l) := kF.out.cell 2
    have g3 : w3.cell? ⟨BO, 3, none⟩ = some (.int .i64 ch) := kF.out.cell 3
    have g4 : w3.cell? ⟨BO, 4, none⟩ = some (.bool ca) := kF.out.cell 4
    have g5 : w3.cell? ⟨BO, 5, none⟩ = some (.string D) := kF.out.cell 5
    clear f2 f4 fz d2 hneB
    go_wp2_with (first | (go_at_call 131; refine (HW.out _).mono ?_; rintro e w4 ⟨rfl, b4⟩; have b5 := Rg.hid (Rg.chain bF.out b4)) | (go_at_call 101; refine (HS.out _ b5.out).mono ?_; rintro e w5 ⟨rfl, hp⟩))
    go_end0
    exact hp
/-- a packet is said -/
theorem isay_any {Kp : Nat → Prop} {W : World} {eb : Nat} {d : Gp.Dr} {p : Pl} {q : Qv} {S : List UInt8} {C : List Gp.Pc} (h : IAt Kp W eb d p q S C) (kd nm ak ch : Int) (ca0 : Bool) (D : ByteArray) (hw : 0 ≤ d.wants ∧ d.wants ≤ 31) (hk : If.ok ⟨kd, nm, Ip.last d, ch, d.caller, D.data.toList⟩) (hlen : S.length + (Ip.pk d kd nm ch D.data.toList).length ≤ 140737488355328) :
    Calls Tryz.prog 105 #[.pointer (some ⟨eb, 0, none⟩), .agg #[.int .i64 kd, .int .i64 nm, .int .i64 ak, .int .i64 ch, .bool ca0, .string D]] W fun e w' => IPostP Kp eb W d p q.ag q.cv (S ++ Ip.pk d kd nm ch D.data.toList) C e w' := by
  refine isay_go eb kd nm ak ch (Ip.last d) ca0 d.caller D ⟨(Ip.pk d kd nm ch D.data.toList).toArray⟩ W _ (h.bk.cell 2) h.bk.lt (fun W1 b1 => ilast_any (h.bk.below b1 h.bk.lt) hw) (fun W1 => ?_) (fun W1 b1 => ?_)
  · refine (iwrite_any kd nm (Ip.last d) ch d.caller D W1).mono fun e w' ⟨he, hb⟩ => ⟨?_, hb⟩
    rw [If.wr_ok hk] at he
    exact he
  · refine ((h.below b1).sayP ⟨(Ip.pk d kd nm ch D.data.toList).toArray⟩ hlen).mono fun e w' ⟨h1, ⟨s', sb', h2⟩, h3⟩ => ⟨h1, rfl, ⟨s', sb', h2⟩, (Fr.of b1 (Nat.le_of_lt h.bk.lt)).trans h3⟩
theorem IPostP.split {Kp : Nat → Prop} {eb : Nat} {W : World} {d : Gp.Dr} {p : Pl} {ag : Option Nat} {cv : Value} {S : List UInt8} {C : List Gp.Pc} {F : Nat} {args : Array Value} (h : Calls Tryz.prog F args W fun e w' => IPostP Kp eb W d p ag cv S C e w') : Calls Tryz.prog F args W fun e w' => e = .returned (.tuple #[]) ∧ IPostP Kp eb W d p ag cv S C (.returned (.tuple #[])) w' := h.mono fun _ _ hp => ⟨hp.1, rfl, hp.2⟩
theorem pk_len (d : Gp.Dr) (kd nm ch : Int) : (Ip.pk d kd nm ch []).length = 6 := by unfold Ip.pk; rw [If.text_len]; rfl
theorem pk_ok {d : Gp.Dr} (_hw : 0 ≤ d.wants ∧ d.wants ≤ 31) {kd nm ch : Int} (h1 : If.kind kd = true) (h2 : 0 ≤ nm ∧ nm ≤ 31) (h3 : 0 ≤ ch ∧ ch ≤ 7) {data : List UInt8} (h4 : data.length < 4096) : If.ok ⟨kd, nm, Ip.last d, ch, d.caller, data⟩ := ⟨⟨h1, h2, by unfold Ip.last; show 0 ≤ (d.wants + 31) % 32 ∧ (d.wants + 31) % 32 ≤ 31; omega, h3⟩, h4⟩
end Go.Proofs.YtomldoijcclhhaaGreat

namespace Go.Proofs.YtomldoijcclhhaaGreat
open Go.RowKit
theorem isSize2 (w : World) : Calls Tryz.prog 159 #[.int .i64 2] w fun e w' => e = .returned (.bool true) ∧ w' = w := by
  go_enter Tryz.func159, Tryz.ntmps159
  go_wp2
  go_ret
  exact ⟨rfl, rfl⟩
theorem isSize1 (w : World) : Calls Tryz.prog 159 #[.int .i64 1] w fun e w' => e = .returned (.bool true) ∧ w' = w := by
  go_enter Tryz.func159, Tryz.ntmps159
  go_wp2
  go_ret
  exact ⟨rfl, rfl⟩
theorem Ip.cat_bytes (a b : List UInt8) : (⟨a.toArray⟩ : ByteArray) ++ (⟨b.toArray⟩ : ByteArray) = ⟨(a ++ b).toArray⟩ := by
  apply ByteArray.ext
  apply Array.ext'
  simp
theorem byte_mod (q : Nat) : UInt8.ofNat (q % 256) = UInt8.ofNat q := by
  apply UInt8.toNat_inj.1
  rw [UInt8.toNat_ofNat', UInt8.toNat_ofNat']
  omega
theorem If.rights2 (q : Nat) : Oct.rights 2 (Oct.putF q) = [UInt8.ofNat (q / 256), UInt8.ofNat (q % 256)] := by
  show [Oct.putF q 1, Oct.putF q 0] = _
  unfold Oct.putF
  rw [Nat.pow_zero, Nat.div_one, Nat.pow_one, byte_mod]
theorem If.rights1 (q : Nat) : Oct.rights 1 (Oct.putF q) = [UInt8.ofNat q] := by
  show [Oct.putF q 0] = _
  unfold Oct.putF
  rw [Nat.pow_zero, Nat.div_one]
set_option maxHeartbeats 400000 in
theorem put2_any (q : Nat) (hq : q < 65536) (w : World) :
    Calls Tryz.prog 122 #[.int .i64 q, .int .i64 2] w fun e w' => e = .returned (.tuple #[.string ⟨([UInt8.ofNat (q / 256), UInt8.ofNat (q % 256)] : List UInt8).toArray⟩, .int .i64 0]) ∧ Below w.heap.size w w' := by
  have HA : Hid (∀ W, Calls Tryz.prog 159 #[.int .i64 2] W fun e w' => e = .returned (.bool true) ∧ w' = W) := fun W => isSize2 W
  have hr : Hid (([UInt8.ofNat (q / 256), UInt8.ofNat (q % 256)] : List UInt8) = Oct.rights 2 (Oct.putF q)) := (If.rights2 q).symm
  have d0 : decide ((q : Int) < 0) = false := by simp
  have d1 : ((q : Int) / 65536 != 0) = false := by rw [bne_eq_false_iff_eq]; omega
  have hlt : (q : Int) < 65536 := by omega
  go_enter Tryz.func122, Tryz.ntmps122
  go_wp2_with (go_at_call 159; refine (HA.out _).mono ?_; rintro e w' ⟨rfl, rfl⟩)
  go_loopw [21] (fun i wr => ∃ k : Nat, k ≤ 2 ∧ i = .int .i64 k ∧ wr.heap[w'.heap.size]? = some (.cells (Oct.cells (Oct.fill 4 2 (Oct.putF q) k)) 112 (0, 0)) ∧ Below w'.heap.size w' wr) (fun i _ => 2 - (intOf i).toNat)
  case atStart =>
    exact ⟨0, Nat.zero_le _, rfl, (MapKept.heap_alloc w' _).1.trans (by rw [Oct.fill_zero]; rfl), (Below.refl _ _).alloc (Nat.le_refl _) _⟩
  case round =>
    obtain ⟨k, hk, rfl, hb, hbl⟩ := hrel
    have hB : Hid (wr.heap[w'.heap.size]? = some (.cells (Oct.cells (Oct.fill 4 2 (Oct.putF q) k)) 112 (0, 0))) := hb
    clear hb
    have hcase : k = 0 ∨ k = 1 ∨ k = 2 := by omega
    rcases hcase with rfl | rfl | rfl
    · obtain ⟨v, hc⟩ : ∃ v, wr.cell? ⟨w'.heap.size, 1, none⟩ = some v := ⟨_, (Lib.cell_of_heap hB.out 1).trans (Oct.cells_at _ _ (by rw [Oct.fill_length]; omega))⟩
      have hf : wr.frozen? ⟨w'.heap.size, 1, none⟩ = false := Lib.frozen_of_heap hB.out _
      go_wp2
      refine ⟨⟨1, by omega, rfl, (Lib.heap_setCell_same hB.out _).trans ?_, hbl.setCell (p := ⟨w'.heap.size, 1, none⟩) (Nat.le_refl _) _⟩, by simp [intOf]⟩
      exact congrArg (fun c => some (Obj.cells c 112 (0, 0))) (Oct.put_step 4 q 2 0 (by omega) _ (by omega))
    · obtain ⟨v, hc⟩ : ∃ v, wr.cell? ⟨w'.heap.size, 0, none⟩ = some v := ⟨_, (Lib.cell_of_heap hB.out 0).trans (Oct.cells_at _ _ (by rw [Oct.fill_length]; omega))⟩
      have hf : wr.frozen? ⟨w'.heap.size, 0, none⟩ = false := Lib.frozen_of_heap hB.out _
      go_wp2
      refine ⟨⟨2, by omega, rfl, (Lib.heap_setCell_same hB.out _).trans ?_, hbl.setCell (p := ⟨w'.heap.size, 0, none⟩) (Nat.le_refl _) _⟩, by simp [intOf]⟩
      exact congrArg (fun c => some (Obj.cells c 112 (0, 0))) (Oct.put_step 4 q 2 1 (by omega) _ (by omega))
    · have hcv := run_convert_bytes_back (P := Tryz.prog) wr 65 9 5 ⟨w'.heap.size, 0, none⟩ 4 (Oct.rights 2 (Oct.putF q)) Tryz.underlying65 Tryz.underlying5 Tryz.underlying9 (Oct.put_cells hB.out (by omega))
      rw [Oct.rights_length] at hcv
      go_wp2
      go_ret2
      exact ⟨ret_se (by rw [hr.out]) rfl, hbl⟩
set_option maxHeartbeats 400000 in
theorem put1_any (q : Nat) (hq : q < 256) (w : World) :
    Calls Tryz.prog 122 #[.int .i64 q, .int .i64 1] w fun e w' => e = .returned (.tuple #[.string ⟨([UInt8.ofNat q] : List UInt8).toArray⟩, .int .i64 0]) ∧ Below w.heap.size w w' := by
  have HA : Hid (∀ W, Calls Tryz.prog 159 #[.int .i64 1] W fun e w' => e = .returned (.bool true) ∧ w' = W) := fun W => isSize1 W
  have hr : Hid (([UInt8.ofNat q] : List UInt8) = Oct.rights 1 (Oct.putF q)) := (If.rights1 q).symm
  have d0 : decide ((q : Int) < 0) = false := by simp
  have d1 : ((q : Int) / 256 != 0) = false := by rw [bne_eq_false_iff_eq]; omega
  have hlt : (q : Int) < 256 := by omega
  go_enter Tryz.func122, Tryz.ntmps122
  go_wp2_with (go_at_call 159; refine (HA.out _).mono ?_; rintro e w' ⟨rfl, rfl⟩)
  go_loopw [21] (fun i wr => ∃ k : Nat, k ≤ 1 ∧ i = .int .i64 k ∧ wr.heap[w'.heap.size]? = some (.cells (Oct.cells (Oct.fill 4 1 (Oct.putF q) k)) 112 (0, 0)) ∧ Below w'.heap.size w' wr) (fun i _ => 1 - (intOf i).toNat)
  case atStart =>
    exact ⟨0, Nat.zero_le _, rfl, (MapKept.heap_alloc w' _).1.trans (by rw [Oct.fill_zero]; rfl), (Below.refl _ _).alloc (Nat.le_refl _) _⟩
  case round =>
    obtain ⟨k, hk, rfl, hb, hbl⟩ := hrel
    have hB : Hid (wr.heap[w'.heap.size]? = some (.cells (Oct.cells (Oct.fill 4 1 (Oct.putF q) k)) 112 (0, 0))) := hb
    clear hb
    have hcase : k = 0 ∨ k = 1 := by omega
    rcases hcase with rfl | rfl
    · obtain ⟨v, hc⟩ : ∃ v, wr.cell? ⟨w'.heap.size, 0, none⟩ = some v := ⟨_, (Lib.cell_of_heap hB.out 0).trans (Oct.cells_at _ _ (by rw [Oct.fill_length]; omega))⟩
      have hf : wr.frozen? ⟨w'.heap.size, 0, none⟩ = false := Lib.frozen_of_heap hB.out _
      go_wp2
      refine ⟨⟨1, by omega, rfl, (Lib.heap_setCell_same hB.out _).trans ?_, hbl.setCell (p := ⟨w'.heap.size, 0, none⟩) (Nat.le_refl _) _⟩, by simp [intOf]⟩
      exact congrArg (fun c => some (Obj.cells c 112 (0, 0))) (Oct.put_step 4 q 1 0 (by omega) _ (by omega))
    · have hcv := run_convert_bytes_back (P := Tryz.prog) wr 65 9 5 ⟨w'.heap.size, 0, none⟩ 4 (Oct.rights 1 (Oct.putF q)) Tryz.underlying65 Tryz.underlying5 Tryz.underlying9 (Oct.put_cells hB.out (by omega))
      rw [Oct.rights_length] at hcv
      go_wp2
      go_ret2
      exact ⟨ret_se (by rw [hr.out]) rfl, hbl⟩
set_option maxHeartbeats 1000000 in
set_option maxRecDepth 100000 in
theorem isaySync_go (eb : Nat) (z r : Int) (A B AB : ByteArray) (w : World) (Post : Ending → World → Prop) (c4 : w.cell? ⟨eb, 4, none⟩ = some (.int .i64 z)) (c5 : Hid (∀ W, Below w.heap.size w W → W.cell? ⟨eb, 5, none⟩ = some (.int .i64 r))) (hA : A.size ≤ 2) (hB : B.size ≤ 1) (hAB : A ++ B = AB)
    (H2 : Hid (∀ W, Calls Tryz.prog 122 #[.int .i64 z, .int .i64 2] W fun e w' => e = .returned (.tuple #[.string A, .int .i64 0]) ∧ Below W.heap.size W w'))
    (H1 : Hid (∀ W, Calls Tryz.prog 122 #[.int .i64 r, .int .i64 1] W fun e w' => e = .returned (.tuple #[.string B, .int .i64 0]) ∧ Below W.heap.size W w'))
    (HS : Hid (∀ W, Below w.heap.size w W → Calls Tryz.prog 105 #[.pointer (some ⟨eb, 0, none⟩), .agg #[.int .i64 1, .int .i64 0, .int .i64 0, .int .i64 0, .bool false, .string AB]] W fun e w' => e = .returned (.tuple #[]) ∧ Post (.returned (.tuple #[])) w')) :
    Calls Tryz.prog 95 #[.pointer (some ⟨eb, 0, none⟩)] w Post := by
  go_enter Tryz.func95, Tryz.ntmps95
  go_upto_region 1 with (go_at_call 122; refine (H2.out _).mono ?_; rintro e w1 ⟨rfl, b1⟩)
  have d5 := c5.out w1 b1
  clear c5
  go_upto_region 2 with (go_at_call 122; refine (H1.out _).mono ?_; rintro e w2 ⟨rfl, b2⟩)
  have b3 := Rg.hid (Rg.chain b1 b2)
  go_wp2_with (go_at_call 105; refine (HS.out _ b3.out).mono ?_; rintro e w3 ⟨rfl, hp⟩)
  go_end0
  exact hp
theorem isaySync_any {Kp : Nat → Prop} {W : World} {eb : Nat} {d : Gp.Dr} {p : Pl} {q : Qv} {S : List UInt8} {C : List Gp.Pc} (h : IAt Kp W eb d p q S C) (hb : Ip.base d) (hlen : S.length + 13 ≤ 140737488355328) :
    Calls Tryz.prog 95 #[.pointer (some ⟨eb, 0, none⟩)] W fun e w' => IPostP Kp eb W d p q.ag q.cv (S ++ Ip.sync d) C e w' := by
  have hz := hb.sz
  have hr := hb.rm
  have ez : ((d.size.toNat : Nat) : Int) = d.size := by omega
  have er : ((d.room.toNat : Nat) : Int) = d.room := by omega
  have H2 := put2_any d.size.toNat (by omega)
  have H1 := put1_any d.room.toNat (by omega)
  rw [ez] at H2
  rw [er] at H1
  refine isaySync_go eb d.size d.room _ _ ⟨[UInt8.ofNat (d.size.toNat / 256), UInt8.ofNat (d.size.toNat % 256), UInt8.ofNat d.room.toNat].toArray⟩ W _ (h.bk.cell 4) (fun W1 b1 => (h.bk.below b1 h.bk.lt).cell 5) (by exact Nat.le_refl 2) (by exact Nat.le_refl 1) (Ip.cat_bytes _ _) H2 H1 (fun W1 b1 => ?_)
  have hs := isay_any (h.below b1) 1 0 0 0 false ⟨[UInt8.ofNat (d.size.toNat / 256), UInt8.ofNat (d.size.toNat % 256), UInt8.ofNat d.room.toNat].toArray⟩ hb.wn (pk_ok hb.wn rfl (by omega) (by omega) (by show 3 < 4096; omega)) (by unfold Ip.pk; rw [If.text_len]; exact hlen)
  exact hs.mono fun e w' ⟨h1, h2, h3⟩ => ⟨h1, rfl, h2, (Fr.of b1 (Nat.le_of_lt h.bk.lt)).trans h3⟩
end Go.Proofs.YtomldoijcclhhaaGreat
