/-
  Walks of the laws of layer 11: GframeWrites.
-/
import Derived.Test.YtfiffbohhhehkaaGreatBuFrC
import Derived.Test.YtfiffbohhhehkaaGreatBsGwR
namespace Go.Proofs.YtfiffbohhhehkaaGreat
open Go.RowKit
def RRefuses (t h l z : Int) (d : ByteArray) : Prop := ∀ w : World, Calls Tryz.prog 72 #[.agg #[.int .i64 t, .int .i64 h, .int .i64 l, .int .i64 z, .string d]] w fun e w' => e = .returned (.tuple #[.string ⟨#[]⟩, .int .i64 1]) ∧ Below w.heap.size w w'
def RWrites (t h l z : Int) (d : ByteArray) (x : List UInt8) : Prop := ∀ w : World, Calls Tryz.prog 72 #[.agg #[.int .i64 t, .int .i64 h, .int .i64 l, .int .i64 z, .string d]] w fun e w' => e = .returned (.tuple #[.string ⟨x.toArray⟩, .int .i64 0]) ∧ Below w.heap.size w w'
theorem keepS {f : FuncId} {args : Array Value} {C : List Value} {ty : TypeId} (w : World) (H : ∀ W, Calls Tryz.prog f args W fun e w' => SomeInt e ∧ Below W.heap.size W w') :
    Hid (∀ W, Below w.heap.size w W → Rg.Bk w.heap.size C ty W → Calls Tryz.prog f args W fun e w' => SomeInt e ∧ Below w.heap.size w w' ∧ Rg.Bk w.heap.size C ty w') :=
  fun W hW hk => (H W).mono fun _ _ ⟨a, b⟩ => ⟨a, hW.trans (b.mono hW.size), hk.below b hk.lt⟩
theorem keepE {f : FuncId} {args : Array Value} {r : Value} {C : List Value} {ty : TypeId} (w : World) (H : ∀ W, Calls Tryz.prog f args W fun e w' => e = .returned r ∧ w' = W) :
    Hid (∀ W, Below w.heap.size w W → Rg.Bk w.heap.size C ty W → Calls Tryz.prog f args W fun e w' => e = .returned r ∧ Below w.heap.size w w' ∧ Rg.Bk w.heap.size C ty w') :=
  fun W hW hk => (H W).mono fun _ _ ⟨a, b⟩ => ⟨a, by rw [b]; exact hW, by rw [b]; exact hk⟩
theorem dz (n : Int) : (decide (n < 0) = false ∧ decide (7 < n) = false) ↔ (0 ≤ n ∧ n ≤ 7) := by simp
theorem rwrite_no (t h l z : Int) (d : ByteArray) (hn : ¬ Gf.ok ⟨t, h, l, z, d.data.toList⟩) : RRefuses t h l z d := by
  intro w
  have bw := Gf.below1 w (.cells #[.int .i64 t, .int .i64 h, .int .i64 l, .int .i64 z, .string d] 80)
  have kw : Rg.Bk w.heap.size [.int .i64 t, .int .i64 h, .int .i64 l, .int .i64 z, .string d] 80 (w.alloc (.cells #[.int .i64 t, .int .i64 h, .int .i64 l, .int .i64 z, .string d] 80)) := Rg.Bk.new rfl
  by_cases h0 : h < 0
  · exact rw_h0 t h l z d w bw kw (decide_eq_true h0)
  by_cases h7 : 7 < h
  · exact rw_h7 t h l z d w bw kw (decide_eq_false h0) (decide_eq_true h7)
  by_cases l0 : l < 0
  · exact rw_l0 t h l z d w bw kw (decide_eq_false h0) (decide_eq_false h7) (decide_eq_true l0)
  by_cases l7 : 7 < l
  · exact rw_l7 t h l z d w bw kw (decide_eq_false h0) (decide_eq_false h7) (decide_eq_false l0) (decide_eq_true l7)
  have HC := fun t z d => keepS (C := [.int .i64 t, .int .i64 h, .int .i64 l, .int .i64 z, .string d]) (ty := 80) w (rgctl_some t h l z d)
  have HK := fun t z d => keepE (C := [.int .i64 t, .int .i64 h, .int .i64 l, .int .i64 z, .string d]) (ty := 80) w (rgcode_any z)
  have hn2 : ¬ ((t = 0 ∧ z = 0 ∧ d.data.toList = []) ∨ (t = 2 ∧ Gf.code z ≠ 0 ∧ (d.size : Int) = z) ∨ (t = 3 ∧ Gf.code z ≠ 0 ∧ (d.size : Int) < z)) := fun h' => hn ⟨⟨by show 0 ≤ h; omega, by show h ≤ 7; omega, by show 0 ≤ l; omega, by show l ≤ 7; omega⟩, by rw [← Gf.len_eq] at h'; exact h'⟩
  by_cases t0 : t = 0
  · subst t0
    by_cases z0 : z = 0
    · subst z0
      exact rw_0d h l d w bw kw (decide_eq_false h0) (decide_eq_false h7) (decide_eq_false l0) (decide_eq_false l7) (by rw [tl_eq]; exact beq_eq_false_iff_ne.2 (fun e => hn2 (Or.inl ⟨rfl, rfl, e⟩))) (HC 0 0 d)
    · exact rw_0z h l z d w bw kw (decide_eq_false h0) (decide_eq_false h7) (decide_eq_false l0) (decide_eq_false l7) z0 (HC 0 z d)
  by_cases t2 : t = 2
  · subst t2
    by_cases hc : Gf.code z = 0
    · exact rw_2k h l z d w bw kw (decide_eq_false h0) (decide_eq_false h7) (decide_eq_false l0) (decide_eq_false l7) (Gf.code z) (by rw [hc]; rfl) (HC 2 z d) (HK 2 z d)
    · exact rw_2s h l z d w bw kw (decide_eq_false h0) (decide_eq_false h7) (decide_eq_false l0) (decide_eq_false l7) (Gf.code z) (Gf.beq0 (by omega)) (Gf.beq0 (fun e => hn2 (Or.inr (Or.inl ⟨rfl, hc, e⟩)))) (HC 2 z d) (HK 2 z d)
  by_cases t3 : t = 3
  · subst t3
    by_cases hc : Gf.code z = 0
    · exact rw_3k h l z d w bw kw (decide_eq_false h0) (decide_eq_false h7) (decide_eq_false l0) (decide_eq_false l7) (Gf.code z) (by rw [hc]; rfl) (HC 3 z d) (HK 3 z d)
    · have hs : ¬ (d.size : Int) < z := fun e => hn2 (Or.inr (Or.inr ⟨rfl, hc, e⟩))
      exact rw_3s h l z d w bw kw (decide_eq_false h0) (decide_eq_false h7) (decide_eq_false l0) (decide_eq_false l7) (Gf.code z) (Gf.beq0 (by omega)) (decide_eq_true (by omega)) (HC 3 z d) (HK 3 z d)
  exact rw_t t h l z d w bw kw (decide_eq_false h0) (decide_eq_false h7) (decide_eq_false l0) (decide_eq_false l7) (Gf.beq0 t0) (Gf.beq0 t2) (Gf.beq0 t3) (HC t z d)
theorem rwrite_yes (t h l z : Int) (d : ByteArray) (hk : Gf.ok ⟨t, h, l, z, d.data.toList⟩) : RWrites t h l z d (Gf.text ⟨t, h, l, z, d.data.toList⟩) := by
  intro w
  have bw := Gf.below1 w (.cells #[.int .i64 t, .int .i64 h, .int .i64 l, .int .i64 z, .string d] 80)
  have kw : Rg.Bk w.heap.size [.int .i64 t, .int .i64 h, .int .i64 l, .int .i64 z, .string d] 80 (w.alloc (.cells #[.int .i64 t, .int .i64 h, .int .i64 l, .int .i64 z, .string d] 80)) := Rg.Bk.new rfl
  have hcf := Gf.ctl_facts hk
  have hsm := Gf.sm_lt ⟨t, h, l, z, d.data.toList⟩
  obtain ⟨⟨h0, h7, l0, l7⟩, hk'⟩ := id hk
  dsimp only at h0 h7 l0 l7 hk'
  obtain ⟨H, rfl⟩ : ∃ k : Nat, h = (k : Int) := ⟨h.toNat, by omega⟩
  obtain ⟨L, rfl⟩ : ∃ k : Nat, l = (k : Int) := ⟨l.toNat, by omega⟩
  have a1 : decide ((H : Int) < 0) = false := decide_eq_false (by omega)
  have a2 : decide ((7 : Int) < (H : Int)) = false := by simp; omega
  have a3 : decide ((L : Int) < 0) = false := decide_eq_false (by omega)
  have a4 : decide ((7 : Int) < (L : Int)) = false := by simp; omega
  rcases hk' with ⟨rfl, rfl, e⟩ | ⟨rfl, hc, e⟩ | ⟨rfl, hc, e⟩
  · obtain rfl : d = ⟨#[]⟩ := by
      apply ByteArray.ext; apply Array.toList_inj.1; exact e
    have hct : Gf.ctl ⟨0, H, L, 0, []⟩ = 0 * 64 + H * 8 + L := by unfold Gf.ctl; dsimp only; omega
    obtain ⟨m, hm, hm2⟩ := Gf.control_nat (0 * 64 + H * 8 + L)
    have hs : Gf.sm ⟨0, H, L, 0, []⟩ = m := by unfold Gf.sm; rw [if_pos rfl, hct, hm]; rfl
    have ht : Gf.text ⟨0, H, L, 0, []⟩ = Gf.head 9 m (0 * 64 + H * 8 + L) := by unfold Gf.text; rw [hs, hct]; exact List.append_nil _
    show Calls _ _ _ _ fun e w' => e = .returned (.tuple #[.string ⟨(Gf.text ⟨0, H, L, 0, []⟩).toArray⟩, .int .i64 0]) ∧ _
    rw [ht]
    exact rw_0 H L w bw kw a1 a2 a3 a4 (0 * 64 + H * 8 + L) m _ (keepF w (rgctl_any 0 H L (by decide) (by omega) (by omega) 0 ⟨#[]⟩)) (keepE w fun W => by have := refControl_any (0 * 64 + H * 8 + L : Nat) W; rwa [hm] at this) (keepF w (rghead_any 9 m _ (by decide) hm2 (by omega)))
  · rw [Gf.len_eq] at e
    have hz := Gf.code_size hc
    have hcl := Gf.code_le z
    have hct : Gf.ctl ⟨2, H, L, z, d.data.toList⟩ = 2 * 64 + H * 8 + L := by unfold Gf.ctl; dsimp only; omega
    obtain ⟨m, hm, hm2⟩ := Gf.packet_nat d.data.toList (2 * 64 + H * 8 + L)
    have hs : Gf.sm ⟨2, H, L, z, d.data.toList⟩ = m := by unfold Gf.sm; rw [if_neg (by dsimp only; decide), hct]; show (Chk.packet d.data.toList _).toNat = m; rw [hm]; rfl
    have ht : Gf.text ⟨2, H, L, z, d.data.toList⟩ = Gf.head (Gf.code z) m (2 * 64 + H * 8 + L) ++ d.data.toList := by unfold Gf.text; rw [hs, hct]; rfl
    rw [ht]
    exact rw_2 H L z d w bw kw a1 a2 a3 a4 (Gf.code z) (Gf.beq0 (by omega)) (beq_iff_eq.2 e) (2 * 64 + H * 8 + L) m ⟨(Gf.head (Gf.code z) m (2 * 64 + H * 8 + L)).toArray⟩ _ (Gf.ba_app _ d.data.toList) (by show ¬ _ < 6 + d.size; omega) (keepF w (rgctl_any 2 H L (by decide) (by omega) (by omega) z d)) (keepE w (rgcode_any z)) (keepE w fun W => by have := refPacket_any d (2 * 64 + H * 8 + L : Nat) W (by unfold maxLen; omega); rwa [hm] at this) (keepF w (rghead_any _ m _ (by omega) hm2 (by omega)))
  · rw [Gf.len_eq] at e
    obtain ⟨z, rfl⟩ : ∃ k : Nat, z = (k : Int) := ⟨z.toNat, by omega⟩
    have hz := Gf.code_size hc
    have hcl := Gf.code_le z
    have hct : Gf.ctl ⟨3, H, L, z, d.data.toList⟩ = 3 * 64 + H * 8 + L := by unfold Gf.ctl; dsimp only; omega
    have hfl : (Gf.field d.data.toList z).length = z := Gf.field_len (by rw [Gf.len_eq]; omega)
    obtain ⟨m, hm, hm2⟩ := Gf.packet_nat (Gf.field d.data.toList z) (3 * 64 + H * 8 + L)
    have hs : Gf.sm ⟨3, H, L, z, d.data.toList⟩ = m := by unfold Gf.sm; rw [if_neg (by dsimp only; decide), hct]; show (Chk.packet (Gf.field d.data.toList z) _).toNat = m; rw [hm]; rfl
    have ht : Gf.text ⟨3, H, L, z, d.data.toList⟩ = Gf.head (Gf.code z) m (3 * 64 + H * 8 + L) ++ Gf.field d.data.toList z := by unfold Gf.text; rw [hs, hct]; rfl
    rw [ht]
    exact rw_3 H L z d w bw kw a1 a2 a3 a4 (Gf.code z) (Gf.beq0 (by omega)) (decide_eq_false (by omega)) (3 * 64 + H * 8 + L) m ⟨(Gf.field d.data.toList z).toArray⟩ ⟨(Gf.head (Gf.code z) m (3 * 64 + H * 8 + L)).toArray⟩ _ (Gf.ba_app _ _) rfl (by rw [Gf.size_of]; omega) (keepF w (rgctl_any 3 H L (by decide) (by omega) (by omega) z d)) (keepE w (rgcode_any z)) (keepF w (rgfield_any 3 H L d z (by omega) (by omega))) (keepE w fun W => by have := refPacket_any ⟨(Gf.field d.data.toList z).toArray⟩ (3 * 64 + H * 8 + L : Nat) W (by rw [Gf.size_of]; unfold maxLen; omega); rwa [hm] at this) (keepF w (rghead_any _ m _ (by omega) hm2 (by omega)))
end Go.Proofs.YtfiffbohhhehkaaGreat
