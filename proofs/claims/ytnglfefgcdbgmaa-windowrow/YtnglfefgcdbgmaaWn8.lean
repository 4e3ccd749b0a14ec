/-
  Walks of layer 14: what Ack answers; Find.
-/
import Derived.Test.YtnglfefgcdbgmaaWn7
namespace Go.Proofs.Ytnglfefgcdbgmaa
open Go.RowKit
/-- What Ack answers. -/
def APost (w : World) (r : Wn.W × Nat) (e : Ending) (w' : World) : Prop := ∃ a c, e = .returned (.tuple #[WV r.1 a c, .int .i64 (r.2 : Nat)]) ∧ WAt w' r.1 a c ∧ Below w.heap.size w w'
theorem Wn.num_next (X : Wn.W) (k : Nat) : (Wn.num X k + 1) % X.md = Wn.num X (k + 1) := by
  unfold Wn.num
  rw [Int.emod_add_emod]
  congr 1
  omega
theorem Wn.nextw (K : Nat) (h : K ≤ 1000) : wrap64 ((K : Int) + 1) = ((K + 1 : Nat) : Int) := by unfold wrap64; omega
theorem SRow.drop {W : World} {b o : Nat} {l : List ByteArray} (h : Rg.At W b o (strE.flat l)) (hb : b < W.heap.size) (k : Nat) (hk : k ≤ l.length) : SRow W (some ⟨b, o + k, none⟩) (l.drop k) := by
  have e : strE.flat l = strE.flat (l.take k) ++ strE.flat (l.drop k) := by rw [← strE.flat_append, List.take_append_drop]
  rw [e] at h
  have := h.right (strE.flat_take l k hk)
  rw [show k * strE.m = k by show k * 1 = k; omega] at this
  exact .inr ⟨b, o + k, rfl, hb, this⟩
/-- What Ack answers, and that its list is as it was, or new. -/
def APostN (w : World) (X : Wn.W) (a0 : Option Addr) (c0 : Nat) (r : Wn.W × Nat) (e : Ending) (w' : World) : Prop := ∃ a c, e = .returned (.tuple #[WV r.1 a c, .int .i64 (r.2 : Nat)]) ∧ WAt w' r.1 a c ∧ Below w.heap.size w w' ∧ ((r.1 = X ∧ a = a0 ∧ c = c0) ∨ New w a)
theorem ack_anyN (X : Wn.W) (a : Option Addr) (c : Nat) (k : Int) (w : World) (h : WAt w X a c) :
    Calls Try.prog 17 #[WV X a c, .int .i64 k] w fun e w' => APostN w X a c (Wn.ack X k) e w' := by
  have HP := fun W => placeOf_any X a c k W
  cases hp : Wn.place X k with
  | none =>
    unfold Wn.plN at HP
    rw [hp] at HP
    rw [show Wn.ack X k = (X, 0) by unfold Wn.ack; rw [hp]]
    exact (ack_none _ _ _ k a _ c w HP).mono fun e w' ⟨h1, h2⟩ => ⟨a, c, h1, h.below h2, h2, .inl ⟨rfl, rfl, rfl⟩⟩
  | some K =>
    unfold Wn.plN at HP
    rw [hp] at HP
    obtain ⟨hr, hK, hk⟩ := Wn.place_some hp
    have hpt := Wn.rt_parts hr
    rw [show Wn.ack X k = (⟨X.md, X.sz, (k + 1) % X.md, X.l.drop (K + 1)⟩, K + 1) by unfold Wn.ack; rw [hp]]
    have hN : (k + 1) % X.md = Wn.num X (K + 1) := by rw [hk]; exact Wn.num_next X K
    have HN := fun W => numberAt_any X a c (K + 1) hr (by omega) W
    rw [hN]
    obtain ⟨ab, ao, rfl, hab, hat, _⟩ := h.row.cell hK
    have hK1 : K ≤ 1000 := by omega
    have hcap := h.cap
    by_cases hc : c = K + 1
    · have hn : X.l.length = K + 1 := by omega
      have hd : X.l.drop (K + 1) = [] := List.drop_of_length_le (by omega)
      rw [hd]
      subst hc
      unfold WV at HN HP ⊢
      rw [hn] at HN HP ⊢
      refine (ack_all X.md X.sz X.bs k _ ab ao K (K + 1) [] w HP (Wn.nextw K hK1) (by omega) HN (fun W hW => clone_any _ 0 [] W (by simp) .nil)).mono fun e w' ⟨a', c', h1, h2, h3, h4, h5⟩ => ?_
      exact ⟨a', c', h1, ⟨h2, h3⟩, h4, .inr h5⟩
    · refine (ack_some X.md X.sz X.bs k _ ab ao X.l.length c K (K + 1) (X.l.drop (K + 1)) w HP (Wn.nextw K hK1) (by omega) (by omega) hc (X.l.drop (K + 1)).length (by simp) HN (fun W hW => clone_any _ _ _ W (by rw [List.length_drop]; omega) ((SRow.drop hat hab (K + 1) (by omega)).below hW))).mono fun e w' ⟨a', c', h1, h2, h3, h4, h5⟩ => ?_
      exact ⟨a', c', h1, ⟨h2, h3⟩, h4, .inr h5⟩
theorem ack_any (X : Wn.W) (a : Option Addr) (c : Nat) (k : Int) (w : World) (h : WAt w X a c) :
    Calls Try.prog 17 #[WV X a c, .int .i64 k] w fun e w' => APost w (Wn.ack X k) e w' := (ack_anyN X a c k w h).mono fun _ _ ⟨a', c', h1, h2, h3, _⟩ => ⟨a', c', h1, h2, h3⟩
set_option maxHeartbeats 2000000 in
set_option maxRecDepth 100000 in
theorem find_none (m s b k : Int) (a : Option Addr) (n c : Nat) (w : World) (HP : Hid (∀ W, Calls Try.prog 32 #[.agg #[.int .i64 m, .int .i64 s, .int .i64 b, .slice a n c], .int .i64 k] W fun e w' => e = .returned (.tuple #[.int .i64 0, .bool false]) ∧ Below W.heap.size W w')) :
    Calls Try.prog 19 #[.agg #[.int .i64 m, .int .i64 s, .int .i64 b, .slice a n c], .int .i64 k] w fun e w' => e = .returned (.tuple #[.string ⟨#[]⟩, .bool false]) ∧ Below w.heap.size w w' := by
  go_enter Try.func19, Try.ntmps19
  go_wp2_with (go_at_call 32; refine (HP.out _).mono ?_; rintro e w2 ⟨rfl, b2⟩)
  go_ret2
  exact ⟨rfl, Rg.chain (Rg.al1 _ _) b2⟩
set_option maxHeartbeats 2000000 in
set_option maxRecDepth 100000 in
theorem find_some (m s b k : Int) (ab ao n c K : Nat) (x : ByteArray) (w : World) (HP : Hid (∀ W, Calls Try.prog 32 #[.agg #[.int .i64 m, .int .i64 s, .int .i64 b, .slice (some ⟨ab, ao, none⟩) n c], .int .i64 k] W fun e w' => e = .returned (.tuple #[.int .i64 (K : Int), .bool true]) ∧ Below W.heap.size W w'))
    (q0 : (0 : Int) ≤ (K : Int)) (q1 : (K : Int) < (n : Int)) (hx : Hid (∀ W, Below w.heap.size w W → W.cell? ⟨ab, ao + K, none⟩ = some (.string x))) :
    Calls Try.prog 19 #[.agg #[.int .i64 m, .int .i64 s, .int .i64 b, .slice (some ⟨ab, ao, none⟩) n c], .int .i64 k] w fun e w' => e = .returned (.tuple #[.string x, .bool true]) ∧ Below w.heap.size w w' := by
  go_enter Try.func19, Try.ntmps19
  go_upto_region 4 with (go_at_call 32; refine (HP.out _).mono ?_; rintro e w2 ⟨rfl, b2⟩)
  have k2 := Rg.Bk.below (Rg.Bk.new (C := [.int .i64 m, .int .i64 s, .int .i64 b, .slice (some ⟨ab, ao, none⟩) n c]) rfl) b2 (by simp)
  have c3 := k2.cell 3
  have b3 := Rg.hid (Rg.chain (Rg.al1 _ _) b2)
  have hc := hx.out _ b3.out
  clear k2 b2 hx
  go_wp2
  go_ret2
  exact ⟨rfl, b3.out⟩
/-- What Find answers. -/
def Wn.findV (X : Wn.W) (k : Int) : Value := match Wn.find X k with
  | some x => .tuple #[.string x, .bool true]
  | none => .tuple #[.string ⟨#[]⟩, .bool false]
theorem find_any (X : Wn.W) (a : Option Addr) (c : Nat) (k : Int) (w : World) (h : WAt w X a c) :
    Calls Try.prog 19 #[WV X a c, .int .i64 k] w fun e w' => e = .returned (Wn.findV X k) ∧ Below w.heap.size w w' := by
  have HP := fun W => placeOf_any X a c k W
  unfold Wn.findV Wn.find
  cases hp : Wn.place X k with
  | none =>
    unfold Wn.plN at HP
    rw [hp] at HP
    exact find_none _ _ _ k a _ c w HP
  | some K =>
    unfold Wn.plN at HP
    rw [hp] at HP
    obtain ⟨hr, hK, hk⟩ := Wn.place_some hp
    obtain ⟨ab, ao, rfl, hab, hat, _⟩ := h.row.cell hK
    rw [Option.bind_some, List.getElem?_eq_getElem hK]
    exact find_some _ _ _ k ab ao _ c K X.l[K] w HP (by omega) (by omega) (fun W hW => str_at (hat.below hW hab) hK)
end Go.Proofs.Ytnglfefgcdbgmaa
