/-
  Layer 6: the document's disk: Read, Used, has.
-/
import Derived.Test.YtempiajepomajaaRf5
namespace Go.Proofs.Ytempiajepomajaa
open Go.RowKit

set_option maxHeartbeats 1000000 in
theorem rread_any (v : Value) (d : Dsk.Dk) (n : ByteArray) (w : World) (hd : Dsk.Ok d) (h : DAt w v d) :
    Calls Try.prog 11 #[v, .string n] w fun e w' => e = .returned (.tuple #[.string (Dsk.read d n).1, .int .i64 (Dsk.read d n).2]) ∧ Below w.heap.size w w' := by
  have HF : Hid (∀ W, Below w.heap.size w W → Calls Try.prog 20 #[v] W fun e w' => ∃ a c, e = .returned (.slice a (Dsk.files d).length c) ∧ fileE.Row w' a (Dsk.files d) ∧ Below w.heap.size w w') := fun W hW => (rfiles_any v d W hd (h.below hW)).mono fun e w' ⟨a, c, h1, h2, _, h3⟩ => ⟨a, c, h1, h2, hW.trans (h3.mono hW.size)⟩
  have hul := hd.files
  have hll := Dsk.len_used (Dsk.files d)
  have hfs := hd.fsrt
  have HI : Hid (∀ W a c, fileE.Row W a (Dsk.files d) → Calls Try.prog 41 #[.slice a (Dsk.files d).length c, .string n] W fun e w' => e = .returned (.tuple #[.int .i64 (Dsk.pos (Dsk.files d) n), .bool (Dsk.has (Dsk.files d) n)]) ∧ Below W.heap.size W w') := fun W a c hr => rfind_any a c _ n W (by omega) hr
  have hrd : Hid (Dsk.read d n = if d.down = true then (ByteArray.empty, (9 : Int)) else match Dsk.get (Dsk.files d) n with | none => (ByteArray.empty, (6 : Int)) | some x => (x, (0 : Int))) := rfl
  obtain ⟨sa, sc, oa, oc, rfl, hS, hO, hsc, hoc⟩ := h
  generalize Dsk.read d n = rd at *
  generalize Dsk.files d = l at *
  obtain ⟨safe, ops, cap, fuse, down⟩ := d
  unfold dval at *
  dsimp only at *
  generalize safe.length = SN at *
  generalize ops.length = ON at *
  clear hS hO hd hfs
  cases down
  · rw [if_neg (by simp)] at hrd
    cases hh : Dsk.has l n
    · have hg : Dsk.get l n = none := by unfold Dsk.has at hh; cases e : Dsk.get l n; (· rfl); rw [e] at hh; cases hh
      rw [hg] at hrd
      rw [hh] at HI
      replace hrd := hrd.out
      dsimp only at hrd
      subst hrd
      clear hh hg
      go_enter Try.func11, Try.ntmps11
      go_wp2_with (go_at_call 20; refine (HF.out _ (Rg.al1 _ _)).mono ?_)
      rintro e w2 ⟨a, c, rfl, hr, hb⟩
      replace hr := Rg.hid hr
      go_wp2_with (go_at_call 41; refine (HI.out _ _ _ hr.out).mono ?_)
      rintro e w3 ⟨rfl, hb3⟩
      go_wp2
      go_ret2
      exact ⟨rfl, Rg.chain hb hb3⟩
    · obtain ⟨x, hg⟩ := has_get hh
      rw [hg] at hrd
      rw [hh] at HI
      obtain ⟨hp, hpn, hpd⟩ := Dsk.get_some_iff.1 hg
      replace hrd := hrd.out
      dsimp only at hrd
      subst hrd
      have hcell : Hid (∀ W W' a, fileE.Row W a l → Below W.heap.size W W' → ∃ b o, a = some ⟨b, o, none⟩ ∧ W'.cell? ⟨b, o + Dsk.pos l n * 2 + 1, none⟩ = some (.string x)) := fun W W' a hr hb => by
        rcases hr with ⟨_, e⟩ | ⟨b, o, rfl, hb', hat⟩
        · subst e; simp at hp
        · obtain ⟨_, q1⟩ := file_at (show Rg.At W' b (o + Dsk.pos l n * 2) (fileE.enc ⟨l[Dsk.pos l n].n, l[Dsk.pos l n].d⟩) from (hat.elem hp).below hb hb')
          rw [hpd] at q1
          exact ⟨b, o, rfl, q1⟩
      clear hh hg hpn hpd
      generalize Dsk.pos l n = p at *
      have e0 : (0 : Int) ≤ (p : Int) := by omega
      have e1 : (p : Int) < (l.length : Int) := by omega
      go_enter Try.func11, Try.ntmps11
      go_wp2_with (go_at_call 20; refine (HF.out _ (Rg.al1 _ _)).mono ?_)
      rintro e w2 ⟨a, c, rfl, hr, hb⟩
      replace hr := Rg.hid hr
      go_wp2_with (go_at_call 41; refine (HI.out _ _ _ hr.out).mono ?_)
      rintro e w3 ⟨rfl, hb3⟩
      obtain ⟨b, o, rfl, q⟩ := hcell.out w2 w3 a hr.out hb3
      go_wp2
      go_ret2
      exact ⟨rfl, Rg.chain hb hb3⟩
  · rw [if_pos rfl] at hrd
    replace hrd := hrd.out
    subst hrd
    go_enter Try.func11, Try.ntmps11
    go_wp2
    go_ret2
    exact ⟨rfl, Rg.al1 _ _⟩

set_option maxHeartbeats 1000000 in
theorem rused_any (v : Value) (d : Dsk.Dk) (w : World) (hd : Dsk.Ok d) (h : DAt w v d) :
    Calls Try.prog 17 #[v] w fun e w' => e = .returned (.int .i64 (Dsk.used (Dsk.files d))) ∧ Below w.heap.size w w' := by
  have HF : Hid (∀ W, Below w.heap.size w W → Calls Try.prog 20 #[v] W fun e w' => ∃ a c, e = .returned (.slice a (Dsk.files d).length c) ∧ fileE.Row w' a (Dsk.files d) ∧ Below w.heap.size w w') := fun W hW => (rfiles_any v d W hd (h.below hW)).mono fun e w' ⟨a, c, h1, h2, _, h3⟩ => ⟨a, c, h1, h2, hW.trans (h3.mono hW.size)⟩
  have HB : Hid (∀ W a c, fileE.Row W a (Dsk.files d) → Calls Try.prog 44 #[.slice a (Dsk.files d).length c] W fun e w' => e = .returned (.int .i64 (Dsk.used (Dsk.files d))) ∧ Below W.heap.size W w') := fun W a c hr => rbytes_any a c _ W hd.files hr
  obtain ⟨sa, sc, oa, oc, rfl, hS, hO, hsc, hoc⟩ := h
  generalize Dsk.used (Dsk.files d) = U at *
  generalize Dsk.files d = l at *
  obtain ⟨safe, ops, cap, fuse, down⟩ := d
  unfold dval at *
  dsimp only at *
  generalize safe.length = SN at *
  generalize ops.length = ON at *
  clear hS hO hd
  go_enter Try.func17, Try.ntmps17
  go_wp2_with (go_at_call 20; refine (HF.out _ (Rg.al1 _ _)).mono ?_)
  rintro e w2 ⟨a, c, rfl, hr, hb⟩
  replace hr := Rg.hid hr
  go_wp2_with (go_at_call 44; refine (HB.out _ _ _ hr.out).mono ?_)
  rintro e w3 ⟨rfl, hb3⟩
  go_wp2
  go_ret
  exact ⟨rfl, Rg.chain hb hb3⟩

set_option maxHeartbeats 1000000 in
theorem rhas_any (v : Value) (d : Dsk.Dk) (n : ByteArray) (w : World) (hd : Dsk.Ok d) (h : DAt w v d) :
    Calls Try.prog 55 #[v, .string n] w fun e w' => e = .returned (.bool (Dsk.has (Dsk.files d) n)) ∧ Below w.heap.size w w' := by
  have HF : Hid (∀ W, Below w.heap.size w W → Calls Try.prog 20 #[v] W fun e w' => ∃ a c, e = .returned (.slice a (Dsk.files d).length c) ∧ fileE.Row w' a (Dsk.files d) ∧ Below w.heap.size w w') := fun W hW => (rfiles_any v d W hd (h.below hW)).mono fun e w' ⟨a, c, h1, h2, _, h3⟩ => ⟨a, c, h1, h2, hW.trans (h3.mono hW.size)⟩
  have hul := hd.files
  have hll := Dsk.len_used (Dsk.files d)
  have HI : Hid (∀ W a c, fileE.Row W a (Dsk.files d) → Calls Try.prog 41 #[.slice a (Dsk.files d).length c, .string n] W fun e w' => e = .returned (.tuple #[.int .i64 (Dsk.pos (Dsk.files d) n), .bool (Dsk.has (Dsk.files d) n)]) ∧ Below W.heap.size W w') := fun W a c hr => rfind_any a c _ n W (by omega) hr
  obtain ⟨sa, sc, oa, oc, rfl, hS, hO, hsc, hoc⟩ := h
  generalize Dsk.has (Dsk.files d) n = H at *
  generalize Dsk.pos (Dsk.files d) n = p at *
  generalize Dsk.files d = l at *
  obtain ⟨safe, ops, cap, fuse, down⟩ := d
  unfold dval at *
  dsimp only at *
  generalize safe.length = SN at *
  generalize ops.length = ON at *
  clear hS hO hd hul hll
  go_enter Try.func55, Try.ntmps55
  go_wp2_with (go_at_call 20; refine (HF.out _ (Rg.al1 _ _)).mono ?_)
  rintro e w2 ⟨a, c, rfl, hr, hb⟩
  replace hr := Rg.hid hr
  go_wp2_with (go_at_call 41; refine (HI.out _ _ _ hr.out).mono ?_)
  rintro e w3 ⟨rfl, hb3⟩
  go_wp2
  go_ret
  exact ⟨rfl, Rg.chain hb hb3⟩
end Go.Proofs.Ytempiajepomajaa
