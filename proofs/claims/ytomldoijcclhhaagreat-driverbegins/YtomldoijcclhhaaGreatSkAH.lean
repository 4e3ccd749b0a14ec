/-
  Walks of layer 11: Write, where the packet may be.
-/
import Derived.Test.YtomldoijcclhhaaGreatSkAG
namespace Go.Proofs.YtomldoijcclhhaaGreat
open Go.RowKit
def Writes (t h l z : Int) (d : ByteArray) (x : List UInt8) : Prop := ∀ w : World, Calls Tryz.prog 141 #[.agg #[.int .i64 t, .int .i64 h, .int .i64 l, .int .i64 z, .string d]] w fun e w' => e = .returned (.tuple #[.string ⟨x.toArray⟩, .int .i64 0]) ∧ Below w.heap.size w w'

set_option maxHeartbeats 1000000 in
theorem write_0 (h l : Nat) (hp : h < 8) (lp : l < 8) : Writes 0 h l 0 ⟨#[]⟩ (Gf.text ⟨0, h, l, 0, []⟩) := by
  intro w
  have HI : Hid (∀ W, Calls Tryz.prog 177 #[.int .i64 h] W fun e w' => e = .returned (.bool true) ∧ w' = W) := fun W => by have := isPart_any h W; rwa [decide_eq_true (⟨by omega, by omega⟩ : (0 : Int) ≤ h ∧ (h : Int) ≤ 7)] at this
  have LI : Hid (∀ W, Calls Tryz.prog 177 #[.int .i64 l] W fun e w' => e = .returned (.bool true) ∧ w' = W) := fun W => by have := isPart_any l W; rwa [decide_eq_true (⟨by omega, by omega⟩ : (0 : Int) ≤ l ∧ (l : Int) ≤ 7)] at this
  have bw := Gf.below1 w (.cells #[.int .i64 0, .int .i64 h, .int .i64 l, .int .i64 0, .string ⟨#[]⟩] 93)
  have hct : Gf.ctl ⟨0, h, l, 0, []⟩ = 0 * 64 + h * 8 + l := by unfold Gf.ctl; dsimp only; omega
  have HC : Hid (∀ W, Below w.heap.size w W → Calls Tryz.prog 178 #[.agg #[.int .i64 0, .int .i64 h, .int .i64 l, .int .i64 0, .string ⟨#[]⟩]] W fun e w' => e = .returned (.int .i64 ((0 * 64 + h * 8 + l : Nat) : Int)) ∧ Below w.heap.size w w') := fun W hW =>
    (gctl_any 0 h l (by decide) hp lp 0 ⟨#[]⟩ W).mono fun e w' ⟨a, b⟩ => ⟨a, hW.trans (b.mono hW.size)⟩
  have hc : 0 * 64 + h * 8 + l < 256 := by omega
  obtain ⟨s, hs, hs2⟩ := Gf.control_nat (0 * 64 + h * 8 + l)
  have hsm : Gf.sm ⟨0, h, l, 0, []⟩ = s := by unfold Gf.sm; rw [if_pos rfl, hct, hs]; rfl
  have hr : Hid (Gf.text ⟨0, h, l, 0, []⟩ = Gf.head 9 s (0 * 64 + h * 8 + l)) := by
    show _ = _
    unfold Gf.text
    rw [hsm, hct]
    exact List.append_nil _
  clear hsm hct
  generalize 0 * 64 + h * 8 + l = c at *
  have HK : Hid (∀ W, Calls Tryz.prog 144 #[.int .i64 c] W fun e w' => e = .returned (.int .i64 s) ∧ w' = W) := fun W => by have := control_any c W; rwa [hs] at this
  have HT : Hid (∀ W, Below w.heap.size w W → Calls Tryz.prog 142 #[.agg #[.int .i64 9, .int .i64 s, .int .i64 c]] W fun e w' => e = .returned (.string ⟨(Gf.head 9 s c).toArray⟩) ∧ Below w.heap.size w w') := fun W hW =>
    (gtext_any 9 s c (by decide) hs2 hc W).mono fun e w' ⟨a, b⟩ => ⟨a, hW.trans (b.mono hW.size)⟩
  clear hs hs2 hc hp lp
  go_enter Tryz.func141, Tryz.ntmps141
  go_wp2_with (first
    | (go_at_call 177; (first | with_reducible refine (HI.out _).mono ?_ | with_reducible refine (LI.out _).mono ?_); rintro e w2 ⟨rfl, rfl⟩)
    | (go_at_call 178; refine (HC.out _ bw).mono ?_; rintro e w2 ⟨rfl, b2⟩)
    | (go_at_call 144; refine (HK.out _).mono ?_; rintro e w3 ⟨rfl, rfl⟩)
    | (go_at_call 142; refine (HT.out _ (by assumption)).mono ?_; rintro e w4 ⟨rfl, b4⟩))
  go_ret2
  exact ⟨ret_se (by rw [hr.out]) rfl, b4⟩
set_option maxHeartbeats 1000000 in
theorem write_2 (h l : Nat) (z : Int) (d : ByteArray) (hp : h < 8) (lp : l < 8) (hc0 : ¬ Gf.code z = 0) (hs : (d.size : Int) = z) : Writes 2 h l z d (Gf.text ⟨2, h, l, z, d.data.toList⟩) := by
  intro w
  have HI : Hid (∀ W, Calls Tryz.prog 177 #[.int .i64 h] W fun e w' => e = .returned (.bool true) ∧ w' = W) := fun W => by have := isPart_any h W; rwa [decide_eq_true (⟨by omega, by omega⟩ : (0 : Int) ≤ h ∧ (h : Int) ≤ 7)] at this
  have LI : Hid (∀ W, Calls Tryz.prog 177 #[.int .i64 l] W fun e w' => e = .returned (.bool true) ∧ w' = W) := fun W => by have := isPart_any l W; rwa [decide_eq_true (⟨by omega, by omega⟩ : (0 : Int) ≤ l ∧ (l : Int) ≤ 7)] at this
  have HK : Hid (∀ W, Calls Tryz.prog 83 #[.int .i64 z] W fun e w' => e = .returned (.int .i64 (Gf.code z)) ∧ w' = W) := fun W => gcode_any z W
  have bw := Gf.below1 w (.cells #[.int .i64 2, .int .i64 h, .int .i64 l, .int .i64 z, .string d] 93)
  have hz := (Gf.code_size hc0).2
  have hct : Gf.ctl ⟨2, h, l, z, d.data.toList⟩ = 2 * 64 + h * 8 + l := by unfold Gf.ctl; dsimp only; omega
  obtain ⟨s, hs1, hs2⟩ := Gf.packet_nat d.data.toList (2 * 64 + h * 8 + l)
  have hsm : Gf.sm ⟨2, h, l, z, d.data.toList⟩ = s := by unfold Gf.sm; rw [if_neg (by dsimp only; decide), hct]; show (Chk.packet d.data.toList _).toNat = s; rw [hs1]; rfl
  have hr : Hid (Gf.text ⟨2, h, l, z, d.data.toList⟩ = Gf.head (Gf.code z) s (2 * 64 + h * 8 + l) ++ d.data.toList) := by
    show _ = _
    unfold Gf.text
    rw [hsm, hct]
    rfl
  have HB : Hid (∀ W, Below w.heap.size w W → Calls Tryz.prog 179 #[.agg #[.int .i64 2, .int .i64 h, .int .i64 l, .int .i64 z, .string d], .string d] W fun e w' => e = .returned (.string ⟨(Gf.head (Gf.code z) s (2 * 64 + h * 8 + l) ++ d.data.toList).toArray⟩) ∧ Below w.heap.size w w') := fun W hW =>
    (withBody_any 2 h l z d d (by decide) hp lp (by omega) s hs1 hs2 W).mono fun e w' ⟨a, b⟩ => ⟨a, hW.trans (b.mono hW.size)⟩
  clear hsm hct hs1 hs2
  rw [← hr.out] at HB
  generalize Gf.text ⟨2, h, l, z, d.data.toList⟩ = x at *
  have he : ((d.size : Int) == z) = true := beq_iff_eq.2 hs
  have hk : ((Gf.code z : Int) == 0) = false := Gf.beq0 (by omega)
  generalize Gf.code z = k at *
  clear hr hs hc0 hp lp hz
  go_enter Tryz.func141, Tryz.ntmps141
  go_wp2_with (first
    | (go_at_call 177; (first | with_reducible refine (HI.out _).mono ?_ | with_reducible refine (LI.out _).mono ?_); rintro e w2 ⟨rfl, rfl⟩)
    | (go_at_call 83; refine (HK.out _).mono ?_; rintro e w2 ⟨rfl, rfl⟩)
    | (go_at_call 179; refine (HB.out _ bw).mono ?_; rintro e w2 ⟨rfl, b2⟩))
  go_ret2
  exact ⟨rfl, b2⟩
set_option maxHeartbeats 1000000 in
theorem write_3 (h l : Nat) (z : Nat) (d : ByteArray) (hp : h < 8) (lp : l < 8) (hc0 : ¬ Gf.code z = 0) (hs : d.size < z) : Writes 3 h l z d (Gf.text ⟨3, h, l, z, d.data.toList⟩) := by
  intro w
  have HI : Hid (∀ W, Calls Tryz.prog 177 #[.int .i64 h] W fun e w' => e = .returned (.bool true) ∧ w' = W) := fun W => by have := isPart_any h W; rwa [decide_eq_true (⟨by omega, by omega⟩ : (0 : Int) ≤ h ∧ (h : Int) ≤ 7)] at this
  have LI : Hid (∀ W, Calls Tryz.prog 177 #[.int .i64 l] W fun e w' => e = .returned (.bool true) ∧ w' = W) := fun W => by have := isPart_any l W; rwa [decide_eq_true (⟨by omega, by omega⟩ : (0 : Int) ≤ l ∧ (l : Int) ≤ 7)] at this
  have HK : Hid (∀ W, Calls Tryz.prog 83 #[.int .i64 z] W fun e w' => e = .returned (.int .i64 (Gf.code z)) ∧ w' = W) := fun W => gcode_any z W
  have bw := Gf.below1 w (.cells #[.int .i64 3, .int .i64 h, .int .i64 l, .int .i64 z, .string d] 93)
  have k0 : Rg.Bk w.heap.size [.int .i64 3, .int .i64 h, .int .i64 l, .int .i64 z, .string d] 93 (w.alloc (.cells #[.int .i64 3, .int .i64 h, .int .i64 l, .int .i64 z, .string d] 93)) := Rg.Bk.new rfl
  have hz := (Gf.code_size hc0).2
  have hct : Gf.ctl ⟨3, h, l, z, d.data.toList⟩ = 3 * 64 + h * 8 + l := by unfold Gf.ctl; dsimp only; omega
  have hfl : (Gf.field d.data.toList z).length = z := Gf.field_len (by rw [Gf.len_eq]; exact hs)
  obtain ⟨s, hs1, hs2⟩ := Gf.packet_nat (Gf.field d.data.toList z) (3 * 64 + h * 8 + l)
  have hsm : Gf.sm ⟨3, h, l, z, d.data.toList⟩ = s := by unfold Gf.sm; rw [if_neg (by dsimp only; decide), hct]; show (Chk.packet (Gf.field d.data.toList z) _).toNat = s; rw [hs1]; rfl
  have hr : Hid (Gf.text ⟨3, h, l, z, d.data.toList⟩ = Gf.head (Gf.code z) s (3 * 64 + h * 8 + l) ++ Gf.field d.data.toList z) := by
    show _ = _
    unfold Gf.text
    rw [hsm, hct]
    rfl
  have HF : Hid (∀ W, Below w.heap.size w W → Rg.Bk w.heap.size [.int .i64 3, .int .i64 h, .int .i64 l, .int .i64 z, .string d] 93 W → Calls Tryz.prog 180 #[.string d, .int .i64 z] W fun e w' => e = .returned (.string ⟨(Gf.field d.data.toList z).toArray⟩) ∧ Below w.heap.size w w' ∧ Rg.Bk w.heap.size [.int .i64 3, .int .i64 h, .int .i64 l, .int .i64 z, .string d] 93 w') := fun W hW hk =>
    (gfield_any d z hs (by omega) W).mono fun e w' ⟨a, b⟩ => ⟨a, hW.trans (b.mono hW.size), hk.below b hk.lt⟩
  have HB : Hid (∀ W, Below w.heap.size w W → Rg.Bk w.heap.size [.int .i64 3, .int .i64 h, .int .i64 l, .int .i64 z, .string d] 93 W → Calls Tryz.prog 179 #[.agg #[.int .i64 3, .int .i64 h, .int .i64 l, .int .i64 z, .string d], .string ⟨(Gf.field d.data.toList z).toArray⟩] W fun e w' => e = .returned (.string ⟨(Gf.head (Gf.code z) s (3 * 64 + h * 8 + l) ++ Gf.field d.data.toList z).toArray⟩) ∧ Below w.heap.size w w' ∧ Rg.Bk w.heap.size [.int .i64 3, .int .i64 h, .int .i64 l, .int .i64 z, .string d] 93 w') := fun W hW hk =>
    (withBody_any 3 h l z d ⟨(Gf.field d.data.toList z).toArray⟩ (by decide) hp lp (by show (Gf.field d.data.toList z).length ≤ _; omega) s hs1 hs2 W).mono fun e w' ⟨a, b⟩ => ⟨a, hW.trans (b.mono hW.size), hk.below b hk.lt⟩
  clear hsm hct hs1 hs2
  rw [← hr.out] at HB
  generalize Gf.text ⟨3, h, l, z, d.data.toList⟩ = x at *
  generalize (⟨(Gf.field d.data.toList z).toArray⟩ : ByteArray) = F at *
  have he : decide ((d.size : Int) < (z : Int)) = true := decide_eq_true (by omega)
  have hk : ((Gf.code z : Int) == 0) = false := Gf.beq0 (by omega)
  generalize Gf.code z = k at *
  clear hr hc0 hp lp hz hfl
  go_enter Tryz.func141, Tryz.ntmps141
  go_upto_region 11 with (first
    | (go_at_call 177; (first | with_reducible refine (HI.out _).mono ?_ | with_reducible refine (LI.out _).mono ?_); rintro e w2 ⟨rfl, rfl⟩)
    | (go_at_call 83; refine (HK.out _).mono ?_; rintro e w2 ⟨rfl, rfl⟩))
  have c0 := k0.cell 0; have c1 := k0.cell 1; have c2 := k0.cell 2; have c3 := k0.cell 3; have c4 := k0.cell 4
  simp only [List.getElem?_cons_zero, List.getElem?_cons_succ] at c0 c1 c2 c3 c4
  generalize w.alloc (.cells #[.int .i64 3, .int .i64 h, .int .i64 l, .int .i64 z, .string d] 93) = W at *
  generalize hB : w.heap.size = B at *
  replace hB := Rg.hid hB
  go_region_held3 (fun w' => w'.cell? ⟨B, 0, none⟩ = some (.int .i64 3) ∧ w'.cell? ⟨B, 1, none⟩ = some (.int .i64 h) ∧ w'.cell? ⟨B, 2, none⟩ = some (.int .i64 l) ∧ w'.cell? ⟨B, 3, none⟩ = some (.int .i64 z) ∧ w'.cell? ⟨B, 4, none⟩ = some (.string d)) (go_keep) (first
    | (go_at_call 180; refine (HF.out _ ?_ ?_).mono ?_; (first | exact bw | exact bw.drew); (first | exact k0 | exact k0.drew); rintro e w2 ⟨rfl, b2, k2⟩; have e0 := k2.cell 0; have e1 := k2.cell 1; have e2 := k2.cell 2; have e3 := k2.cell 3; have e4 := k2.cell 4; simp only [List.getElem?_cons_zero, List.getElem?_cons_succ] at e0 e1 e2 e3 e4)
    | (go_at_call 179; refine (HB.out _ ?_ ?_).mono ?_; (first | exact b2 | exact b2.drew); (first | exact k2 | exact k2.drew); rintro e w3 ⟨rfl, b3, k3⟩; have d0 := k3.cell 0; have d1 := k3.cell 1; have d2 := k3.cell 2; have d3 := k3.cell 3; have d4 := k3.cell 4; simp only [List.getElem?_cons_zero, List.getElem?_cons_succ] at d0 d1 d2 d3 d4))
  go_wp2
  go_ret2
  exact ⟨rfl, by rw [hB.out]; first | exact b3 | exact b3.drew⟩
theorem write_yes (t h l z : Int) (d : ByteArray) (hk : Gf.ok ⟨t, h, l, z, d.data.toList⟩) : Writes t h l z d (Gf.text ⟨t, h, l, z, d.data.toList⟩) := by
  obtain ⟨⟨h0, h7, l0, l7⟩, hk⟩ := hk
  dsimp only at h0 h7 l0 l7 hk
  obtain ⟨h, rfl⟩ : ∃ k : Nat, h = (k : Int) := ⟨h.toNat, by omega⟩
  obtain ⟨l, rfl⟩ : ∃ k : Nat, l = (k : Int) := ⟨l.toNat, by omega⟩
  rcases hk with ⟨rfl, rfl, e⟩ | ⟨rfl, hc, e⟩ | ⟨rfl, hc, e⟩
  · obtain rfl : d = ⟨#[]⟩ := by
      apply ByteArray.ext; apply Array.toList_inj.1; exact e
    exact write_0 h l (by omega) (by omega)
  · rw [Gf.len_eq] at e
    exact write_2 h l z d (by omega) (by omega) hc e
  · rw [Gf.len_eq] at e
    obtain ⟨z, rfl⟩ : ∃ k : Nat, z = (k : Int) := ⟨z.toNat, by omega⟩
    exact write_3 h l z d (by omega) (by omega) hc (by omega)
end Go.Proofs.YtomldoijcclhhaaGreat
