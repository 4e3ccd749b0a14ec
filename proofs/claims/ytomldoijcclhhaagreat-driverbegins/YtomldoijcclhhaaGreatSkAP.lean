/-
  Walks of the laws of layer 11: GframeWrites.
-/
import Derived.Test.YtomldoijcclhhaaGreatSkAM
import Derived.Test.YtomldoijcclhhaaGreatSkAO
namespace Go.Proofs.YtomldoijcclhhaaGreat
open Go.RowKit
def RWrites (t h l z : Int) (d : ByteArray) (x : List UInt8) : Prop := ∀ w : World, Calls Tryz.prog 110 #[.agg #[.int .i64 t, .int .i64 h, .int .i64 l, .int .i64 z, .string d]] w fun e w' => e = .returned (.tuple #[.string ⟨x.toArray⟩, .int .i64 0]) ∧ Below w.heap.size w w'
theorem keepE {f : FuncId} {args : Array Value} {r : Value} {C : List Value} {ty : TypeId} (w : World) (H : ∀ W, Calls Tryz.prog f args W fun e w' => e = .returned r ∧ w' = W) :
    Hid (∀ W, Below w.heap.size w W → Rg.Bk w.heap.size C ty W → Calls Tryz.prog f args W fun e w' => e = .returned r ∧ Below w.heap.size w w' ∧ Rg.Bk w.heap.size C ty w') :=
  fun W hW hk => (H W).mono fun _ _ ⟨a, b⟩ => ⟨a, by rw [b]; exact hW, by rw [b]; exact hk⟩
theorem rwrite_yes (t h l z : Int) (d : ByteArray) (hk : Gf.ok ⟨t, h, l, z, d.data.toList⟩) : RWrites t h l z d (Gf.text ⟨t, h, l, z, d.data.toList⟩) := by
  intro w
  have bw := Gf.below1 w (.cells #[.int .i64 t, .int .i64 h, .int .i64 l, .int .i64 z, .string d] 93)
  have kw : Rg.Bk w.heap.size [.int .i64 t, .int .i64 h, .int .i64 l, .int .i64 z, .string d] 93 (w.alloc (.cells #[.int .i64 t, .int .i64 h, .int .i64 l, .int .i64 z, .string d] 93)) := Rg.Bk.new rfl
  have hcf := Gf.ctl_facts hk
  have hsm := Gf.sm_lt ⟨t, h, l, z, d.data.toList⟩
  obtain ⟨⟨h0, h7, l0, l7⟩, hk'⟩ := id hk
  dsimp only at h0 h7 l0 l7 hk'
  obtain ⟨H, rfl⟩ : ∃ k : Nat, h = (k : Int) := ⟨h.toNat, by omega⟩
  obtain ⟨L, rfl⟩ : ∃ k : Nat, l = (k : Int) := ⟨l.toNat, by omega⟩
  have a1 : decide ((H : Int) < 0) = false := decide_eq_false (by omega)
  have a2 : decide ((7 : Int) < (H : Int)) = false := by simp; omega
  have a3 : decide ((L : Int) < 0) = false := decide_eq_false (by omega)
  have a4 : decide ((7 : Int) < (L : Int)) = false := by simp; omega
  rcases hk' with ⟨rfl, rfl, e⟩ | ⟨rfl, hc, e⟩ | ⟨rfl, hc, e⟩
  · obtain rfl : d = ⟨#[]⟩ := by
      apply ByteArray.ext; apply Array.toList_inj.1; exact e
    have hct : Gf.ctl ⟨0, H, L, 0, []⟩ = 0 * 64 + H * 8 + L := by unfold Gf.ctl; dsimp only; omega
    obtain ⟨m, hm, hm2⟩ := Gf.control_nat (0 * 64 + H * 8 + L)
    have hs : Gf.sm ⟨0, H, L, 0, []⟩ = m := by unfold Gf.sm; rw [if_pos rfl, hct, hm]; rfl
    have ht : Gf.text ⟨0, H, L, 0, []⟩ = Gf.head 9 m (0 * 64 + H * 8 + L) := by unfold Gf.text; rw [hs, hct]; exact List.append_nil _
    show Calls _ _ _ _ fun e w' => e = .returned (.tuple #[.string ⟨(Gf.text ⟨0, H, L, 0, []⟩).toArray⟩, .int .i64 0]) ∧ _
    rw [ht]
    exact rw_0 H L w bw kw a1 a2 a3 a4 (0 * 64 + H * 8 + L) m _ (keepF w (rgctl_any 0 H L (by decide) (by omega) (by omega) 0 ⟨#[]⟩)) (keepE w fun W => by have := refControl_any (0 * 64 + H * 8 + L : Nat) W; rwa [hm] at this) (keepF w (rghead_any 9 m _ (by decide) hm2 (by omega)))
  · rw [Gf.len_eq] at e
    have hz := Gf.code_size hc
    have hcl := Gf.code_le z
    have hct : Gf.ctl ⟨2, H, L, z, d.data.toList⟩ = 2 * 64 + H * 8 + L := by unfold Gf.ctl; dsimp only; omega
    obtain ⟨m, hm, hm2⟩ := Gf.packet_nat d.data.toList (2 * 64 + H * 8 + L)
    have hs : Gf.sm ⟨2, H, L, z, d.data.toList⟩ = m := by unfold Gf.sm; rw [if_neg (by dsimp only; decide), hct]; show (Chk.packet d.data.toList _).toNat = m; rw [hm]; rfl
    have ht : Gf.text ⟨2, H, L, z, d.data.toList⟩ = Gf.head (Gf.code z) m (2 * 64 + H * 8 + L) ++ d.data.toList := by unfold Gf.text; rw [hs, hct]; rfl
    rw [ht]
    exact rw_2 H L z d w bw kw a1 a2 a3 a4 (Gf.code z) (Gf.beq0 (by omega)) (beq_iff_eq.2 e) (2 * 64 + H * 8 + L) m ⟨(Gf.head (Gf.code z) m (2 * 64 + H * 8 + L)).toArray⟩ _ (Gf.ba_app _ d.data.toList) (by show ¬ _ < 6 + d.size; omega) (keepF w (rgctl_any 2 H L (by decide) (by omega) (by omega) z d)) (keepE w (rgcode_any z)) (keepE w fun W => by have := refPacket_any d (2 * 64 + H * 8 + L : Nat) W (by unfold maxLen; omega); rwa [hm] at this) (keepF w (rghead_any _ m _ (by omega) hm2 (by omega)))
  · rw [Gf.len_eq] at e
    obtain ⟨z, rfl⟩ : ∃ k : Nat, z = (k : Int) := ⟨z.toNat, by omega⟩
    have hz := Gf.code_size hc
    have hcl := Gf.code_le z
    have hct : Gf.ctl ⟨3, H, L, z, d.data.toList⟩ = 3 * 64 + H * 8 + L := by unfold Gf.ctl; dsimp only; omega
    have hfl : (Gf.field d.data.toList z).length = z := Gf.field_len (by rw [Gf.len_eq]; omega)
    obtain ⟨m, hm, hm2⟩ := Gf.packet_nat (Gf.field d.data.toList z) (3 * 64 + H * 8 + L)
    have hs : Gf.sm ⟨3, H, L, z, d.data.toList⟩ = m := by unfold Gf.sm; rw [if_neg (by dsimp only; decide), hct]; show (Chk.packet (Gf.field d.data.toList z) _).toNat = m; rw [hm]; rfl
    have ht : Gf.text ⟨3, H, L, z, d.data.toList⟩ = Gf.head (Gf.code z) m (3 * 64 + H * 8 + L) ++ Gf.field d.data.toList z := by unfold Gf.text; rw [hs, hct]; rfl
    rw [ht]
    exact rw_3 H L z d w bw kw a1 a2 a3 a4 (Gf.code z) (Gf.beq0 (by omega)) (decide_eq_false (by omega)) (3 * 64 + H * 8 + L) m ⟨(Gf.field d.data.toList z).toArray⟩ ⟨(Gf.head (Gf.code z) m (3 * 64 + H * 8 + L)).toArray⟩ _ (Gf.ba_app _ _) rfl (by rw [Gf.size_of]; omega) (keepF w (rgctl_any 3 H L (by decide) (by omega) (by omega) z d)) (keepE w (rgcode_any z)) (keepF w (rgfield_any 3 H L d z (by omega) (by omega))) (keepE w fun W => by have := refPacket_any ⟨(Gf.field d.data.toList z).toArray⟩ (3 * 64 + H * 8 + L : Nat) W (by rw [Gf.size_of]; unfold maxLen; omega); rwa [hm] at this) (keepF w (rghead_any _ m _ (by omega) hm2 (by omega)))
end Go.Proofs.YtomldoijcclhhaaGreat
