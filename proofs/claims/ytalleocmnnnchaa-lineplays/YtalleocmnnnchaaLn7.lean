/-
  Layer 7: splice.
-/
import Derived.Test.YtalleocmnnnchaaLn6
import Derived.Test.YtalleocmnnnchaaRowJ
import Derived.Laws.IdiomStrings
namespace Go.Proofs.Ytalleocmnnnchaa
open Go.RowKit

def byteE : Rg.El UInt8 := { enc := fun b => [.int .u8 (b.toNat : Int)], m := 1, hm := fun _ => rfl, pos := by decide, one := fun x u hu => by simp at hu; subst hu; rfl, ty := 5 }
theorem byte_flat (l : List UInt8) : byteE.flat l = l.map (fun b => Value.int .u8 (b.toNat : Int)) := by
  induction l with
  | nil => rfl
  | cons x l ih => rw [byteE.flat_cons, ih]; rfl
theorem infoByte : (Try.prog.info? 5).map (fun i => (i.zero, i.size, i.bytes)) = some (some (.int .u8 0), 1, 1) := by kernel_rfl
theorem infoByte' : ∃ i0, Try.prog.info? 5 = some i0 ∧ i0.zero = some (.int .u8 0) ∧ i0.size = 1 ∧ i0.bytes = 1 := by
  have h := infoByte
  cases e : Try.prog.info? 5 with
  | none => rw [e] at h; cases h
  | some i0 => rw [e] at h; simp at h; exact ⟨i0, rfl, h.1, h.2.1, h.2.2⟩
namespace Rg
section
variable {α : Type} {E : El α} {P : Program}
/-- nothing appended -/
theorem append_none (W : World) (t ty e : TypeId) (i : TypeInfo) (ht : P.underlying t = some (.slice e)) (hi : P.info? e = some i) (a : Option Addr) (n cap : Nat) (a2 : Option Addr) (c : Nat) (hn : n ≤ cap) :
    (Builtin.append_ #[t, t] ty #[.slice a n cap, .slice a2 0 c]).run P W = .ok (.slice a n cap) W := by
  cases a <;> cases a2 <;> simp [Builtin.append_, run_underlying ht, sizeOf, typeInfo, hi, Builtin.lenOf, Builtin.firstCells, storeCells, loadCells, loadCellsFrom, hn]
/-- some appended to a row without room: a new one -/
theorem El.appendRow_full (W : World) (b o : Nat) (l : List α) (hat : At W b o (E.flat l)) (l2 : List α) (hl2 : 0 < l2.length) (t ty : TypeId) (i : TypeInfo) (z : Value) (bytes : Nat)
    (ht : P.underlying t = some (.slice E.ty)) (hi : P.info? E.ty = some i) (hz : i.zero = some z) (hsize : i.size = E.m) (hby : i.bytes = bytes) (hzs : z.cells.size = E.m)
    (b2 o2 : Nat) (c : Nat) (hat2 : At W b2 o2 (E.flat l2)) (hbig : (l.length + l2.length) * bytes ≤ 140737488355328) (hmax : l.length + l2.length ≤ maxLen) :
    ∃ g' cap' rest' W', (Builtin.append_ #[t, t] ty #[.slice (Option.some ⟨b, o, none⟩) l.length l.length, .slice (Option.some ⟨b2, o2, none⟩) l2.length c]).run P W = .ok (.slice (Option.some ⟨g', 0, none⟩) (l.length + l2.length) cap') W' ∧
      E.Own W.heap.size W' g' cap' (l ++ l2) rest' ∧ Below W.heap.size W W' := by
  have hnl : (E.flat l2).length = l2.length * E.m := El.flat_length E l2
  have hrun := run_append_grow (P := P) W t ty E.ty i z ht hi hz ⟨b, o, none⟩ l.length l.length (E.flat l) (by rw [hsize]; exact El.flat_length E l) hat.add ⟨b2, o2, none⟩ l2.length c (E.flat l2) (by rw [hsize]; exact hnl) hat2.add (by omega) (by unfold maxLen at hmax; omega) (growslice_fits (by omega) (by rw [hby]; exact hbig))
  have hge := grownCap_ge W (l.length + l2.length) l.length E.ty
  have hcm : grownCap W (l.length + l2.length) l.length E.ty ≤ maxLen := grownCap_le_maxLen W (l.length + l2.length) l.length E.ty hmax
  refine ⟨W.heap.size, _, (Builtin.zeroCells z.cells (grownCap W (l.length + l2.length) l.length E.ty - (l.length + l2.length))).toList, _, hrun, ⟨?_, Nat.le_refl _, by simpa using hge, hcm, ?_⟩, ⟨rfl, rfl, rfl, by simp, fun k hk => Below.heap_alloc W.drew _ k (by show k < W.heap.size; omega)⟩⟩
  · rw [show W.heap.size = W.drew.heap.size from rfl, heap_alloc_new]
    refine congrArg (fun x => some (Obj.cells x E.ty (0, 0))) ?_
    apply Array.ext'
    rw [El.flat_append]
    simp
  · have hzl : ∀ n, (Builtin.zeroCells z.cells n).toList.length = n * E.m := fun n => by rw [Array.length_toList, size_zeroCells, hzs]
    rw [List.length_append, El.flat_length, hzl, List.length_append, ← Nat.add_mul]
    exact Nat.mul_le_mul_right _ (by omega)
end
end Rg
theorem conv_bytes {W : World} {b o cap : Nat} {l : List UInt8} (h : Rg.At W b o (byteE.flat l)) : (convert 67 9 (.slice (some ⟨b, o, none⟩) l.length cap)).run Try.prog W = .ok (.string ⟨l.toArray⟩) W :=
  run_convert_bytes_back W 67 9 5 ⟨b, o, none⟩ cap l Try.underlying67 Try.underlying5 Try.underlying9 (fun j hj => by
    rw [byte_flat] at h
    exact h.add j _ (by simp [hj]))
/-- what the bytes of a text are -/
theorem bytes_at (w : World) (s : ByteArray) (cap : Nat) (fr : Nat × Nat) : Rg.At (w.drew.alloc (.cells (bytesRow s cap) 5 fr)) w.heap.size 0 (byteE.flat s.data.toList) := fun t u ht => by
  rw [byte_flat] at ht
  have hb : (w.drew.alloc (.cells (bytesRow s cap) 5 fr)).heap[w.heap.size]? = some (.cells (bytesRow s cap) 5 fr) := heap_alloc_new w.drew _
  have hlt : t < s.data.size := by have := (List.getElem?_eq_some_iff.1 ht).1; simpa using this
  have hc : (w.drew.alloc (.cells (bytesRow s cap) 5 fr)).cell? ⟨w.heap.size, t, none⟩ = (bytesRow s cap)[t]? := by unfold World.cell?; rw [hb]; rfl
  rw [Nat.zero_add, hc, ← ht]
  unfold bytesRow
  rw [Array.getElem?_append_left (by simpa using hlt)]
  simp

set_option maxHeartbeats 1000000 in
set_option maxRecDepth 100000 in
theorem splice_out (s : ByteArray) (k d : Nat) (w : World) (hs : s.size ≤ 1000000000) (hk : k + d ≤ s.size) :
    Calls Try.prog 40 #[.string s, .int .i64 k, .int .i64 d, .slice none 0 0] w fun e w' => e = .returned (.string ⟨(s.data.toList.take k ++ s.data.toList.drop (k + d)).toArray⟩) ∧ Below w.heap.size w w' := by
  obtain ⟨i0, hi, hz0, hz1, hz2⟩ := infoByte'
  have hcv := run_bytes_of_string (P := Try.prog) w 9 67 5 s Try.underlying9 Try.underlying67 Try.underlying5
  have hat := bytes_at w s (grownCap w s.size 0 5) ((bytesRow s (grownCap w s.size 0 5)).size, (bytesRow s (grownCap w s.size 0 5)).size + 1)
  have hbl : Below w.heap.size w (w.drew.alloc (.cells (bytesRow s (grownCap w s.size 0 5)) 5 ((bytesRow s (grownCap w s.size 0 5)).size, (bytesRow s (grownCap w s.size 0 5)).size + 1))) := ((Below.refl _ w).drew).alloc (Nat.le_refl _) _
  have hAl : w.heap.size < (w.drew.alloc (.cells (bytesRow s (grownCap w s.size 0 5)) 5 ((bytesRow s (grownCap w s.size 0 5)).size, (bytesRow s (grownCap w s.size 0 5)).size + 1))).heap.size := by
    show _ < (w.heap.push _).size
    simp
  have hcp := grownCap_ge w s.size 0 5
  have hlen : s.size = s.data.toList.length := rfl
  generalize (w.drew.alloc (.cells (bytesRow s (grownCap w s.size 0 5)) 5 ((bytesRow s (grownCap w s.size 0 5)).size, (bytesRow s (grownCap w s.size 0 5)).size + 1))) = w1 at *
  generalize grownCap w s.size 0 5 = CP at *
  obtain ⟨bs, hbs⟩ : ∃ bs, bs = s.data.toList := ⟨_, rfl⟩
  rw [← hbs] at hat hlen ⊢
  obtain ⟨N, hN⟩ : ∃ N, N = s.size := ⟨_, rfl⟩
  rw [← hN] at hcv hcp hlen hk hs
  have hcv' : Hid ((convert 9 67 (.string s)).run Try.prog w = .ok (.slice (some ⟨w.heap.size, 0, none⟩) N CP) w1) := hcv
  have hkN : k ≤ N := by omega
  have htl : (bs.take k).length = k := by rw [List.length_take]; omega
  have hatk : Rg.At w1.drew w.heap.size 0 (byteE.flat (bs.take k)) := by
    have h := hat
    rw [← List.take_append_drop k bs, byteE.flat_append] at h
    exact h.left
  have hatd : Rg.At w1.drew w.heap.size (k + d) (byteE.flat (bs.drop (k + d))) := by
    have h := hat
    rw [← List.take_append_drop (k + d) bs, byteE.flat_append] at h
    have := h.right (k := k + d) (by rw [byteE.flat_length, List.length_take]; show min (k + d) bs.length * 1 = k + d; omega)
    rw [Nat.zero_add] at this
    exact this
  have hdl : (bs.drop (k + d)).length = N - (k + d) := by rw [List.length_drop, hlen]
  have key : (∃ b3 o3 cap3 w3, (∀ a2 c2, (a2 = some ⟨w.heap.size, k + d, none⟩ ∨ N = k + d) → (Builtin.append_ #[67, 67] 67 #[.slice (some ⟨w.heap.size, 0, none⟩) k k, .slice a2 (N - (k + d)) c2]).run Try.prog w1.drew = .ok (.slice (some ⟨b3, o3, none⟩) (k + (N - (k + d))) cap3) w3) ∧ (convert 67 9 (.slice (some ⟨b3, o3, none⟩) (k + (N - (k + d))) cap3)).run Try.prog w3 = .ok (.string ⟨(bs.take k ++ bs.drop (k + d)).toArray⟩) w3 ∧ Below w.heap.size w w3) := by
    by_cases hm : N = k + d
    · refine ⟨w.heap.size, 0, k, w1.drew, fun a2 c2 _ => ?_, ?_, hbl.drew⟩
      · rw [show N - (k + d) = 0 by omega]
        exact Rg.append_none w1.drew _ _ 5 i0 Try.underlying67 hi _ _ _ _ _ (Nat.le_refl _)
      · have := conv_bytes (cap := k) hatk
        rw [htl] at this
        rw [show k + (N - (k + d)) = k by omega, this, List.drop_eq_nil_of_le (by omega), List.append_nil]
    · obtain ⟨g3, cap3, rest3, w3, h1, h2, h3⟩ : ∃ g3 cap3 rest3 w3, (∀ c2, (Builtin.append_ #[67, 67] 67 #[.slice (some ⟨w.heap.size, 0, none⟩) k k, .slice (some ⟨w.heap.size, k + d, none⟩) (N - (k + d)) c2]).run Try.prog w1.drew = .ok (.slice (some ⟨g3, 0, none⟩) (k + (N - (k + d))) cap3) w3) ∧ byteE.Own w1.heap.size w3 g3 cap3 (bs.take k ++ bs.drop (k + d)) rest3 ∧ Below w1.heap.size w1.drew w3 := by
        obtain ⟨g3, cap3, rest3, w3, h1, h2, h3⟩ := Rg.El.appendRow_full (P := Try.prog) (E := byteE) w1.drew w.heap.size 0 (bs.take k) hatk (bs.drop (k + d)) (by omega) 67 67 i0 _ 1 Try.underlying67 hi hz0 hz1 hz2 rfl w.heap.size (k + d) 0 hatd (by rw [htl, hdl]; omega) (by rw [htl, hdl]; unfold maxLen; omega)
        rw [htl, hdl] at h1
        exact ⟨g3, cap3, rest3, w3, fun c2 => h1, h2, h3⟩
      refine ⟨g3, 0, cap3, w3, fun a2 c2 h => ?_, ?_, (hbl.drew).trans (h3.mono hbl.drew.size)⟩
      · rcases h with rfl | h
        · exact h1 c2
        · exact absurd h hm
      · have := conv_bytes (cap := cap3) h2.row
        rw [List.length_append, htl, hdl] at this
        exact this
  have hap1' : Hid ((Builtin.append_ #[67, 67] 67 #[.slice (some ⟨w.heap.size, 0, none⟩) k k, .slice none 0 0]).run Try.prog w1.drew = .ok (.slice (some ⟨w.heap.size, 0, none⟩) k k) w1.drew) := Rg.append_none w1.drew _ _ 5 i0 Try.underlying67 hi _ _ _ _ _ (Nat.le_refl _)
  obtain ⟨b3, o3, cap3, w3, hap2, hcb, hbw⟩ := key
  have hap2' := Rg.hid hap2
  have hcb' := Rg.hid hcb
  have hbw' := Rg.hid hbw
  generalize (bs.take k ++ bs.drop (k + d)).toArray = RA at *
  obtain ⟨K, hK⟩ : ∃ K, K = k + d := ⟨_, rfl⟩
  have hwr : IntKind.i64.wrap ((k : Int) + (d : Int)) = (K : Int) := by rw [IntKind.wrap_i64]; omega
  rw [← hK] at hap2' hcb' hk
  have e0 : (0 : Int) ≤ (k : Int) := by omega
  have e1 : (k : Int) ≤ (CP : Int) := by omega
  have e2 : (0 : Int) ≤ (K : Int) := by omega
  have e3 : (K : Int) ≤ (N : Int) := by omega
  have hNs : (s.size : Int) = (N : Int) := by rw [hN]
  have hap2a : Hid (∀ c2, ¬ CP = K → (Builtin.append_ #[67, 67] 67 #[.slice (some ⟨w.heap.size, 0, none⟩) k k, .slice (some ⟨w.heap.size, K, none⟩) (N - K) c2]).run Try.prog w1.drew = .ok (.slice (some ⟨b3, o3, none⟩) (k + (N - K)) cap3) w3) := fun c2 _ => hap2'.out _ c2 (.inl rfl)
  have hap2b : Hid (∀ c2, CP = K → (Builtin.append_ #[67, 67] 67 #[.slice (some ⟨w.heap.size, 0, none⟩) k k, .slice (some ⟨w.heap.size, 0, none⟩) (N - K) c2]).run Try.prog w1.drew = .ok (.slice (some ⟨b3, o3, none⟩) (k + (N - K)) cap3) w3) := fun c2 h => hap2'.out _ c2 (.inr (by omega))
  replace hK := Rg.hid hK
  clear hcv hat hbl hAl hlen hbs hatk hatd hdl htl hap2 hcb hbw hap2' hi hz0 hz1 hz2 hN 
  go_enter Try.func40, Try.ntmps40
  go_upto_region 3 with (rw [hcv'.out])
  have hcb := hcb'.out
  clear hcv'
  by_cases hck : CP = K
  · have ha := Rg.hid (fun c2 => hap2b.out c2 hck)
    refine wp_region_held_drew (S := fun w' => Rg.Free w') (by kernel_rfl) (Rg.free _) (fun hH => ?_)
    refine wpAnyH_take (i := 0) (oi := { dst := some 17, op := Op.move (Operand.tmp 10), type := 67, pos := "line.go:106", after := #[], guard := none }) (v := ?_) rfl (by kernel_rfl) (by kernel_rfl) (by kernel_rfl) (fun _ _ _ h => h) (Or.inl ⟨by rfl, ?_⟩) (Rg.free _) ?_
    rotate_left
    · (intro w hSw; (try dsimp only at hSw); go_simp); (try with_reducible rfl)
    simp only [Act.put, List.setIfInBounds_toArray, List.set_cons_zero, List.set_cons_succ]
    refine wpAnyH_take (i := 1) (oi := { dst := some 18, op := Op.move (Operand.tmp 3), type := 67, pos := "line.go:106", after := #[], guard := none }) (v := ?_) rfl (by kernel_rfl) (by kernel_rfl) (by kernel_rfl) (fun _ _ _ h => h) (Or.inl ⟨by rfl, ?_⟩) (Rg.free _) ?_
    rotate_left
    · (intro w hSw; (try dsimp only at hSw); go_simp); (try with_reducible rfl)
    simp only [Act.put, List.setIfInBounds_toArray, List.set_cons_zero, List.set_cons_succ]
    refine wpAnyH_take (i := 3) (oi := { dst := some 20, op := Op.move (Operand.tmp 9), type := 67, pos := "line.go:106", after := #[], guard := none }) (v := ?_) rfl (by kernel_rfl) (by kernel_rfl) (by kernel_rfl) (fun _ _ _ h => h) (Or.inl ⟨by rfl, ?_⟩) (Rg.free _) ?_
    rotate_left
    · (intro w hSw; (try dsimp only at hSw); go_simp); (try with_reducible rfl)
    simp only [Act.put, List.setIfInBounds_toArray, List.set_cons_zero, List.set_cons_succ]
    refine wpAnyH_take (i := 4) (oi := { dst := some 21, op := Op.move (Operand.tmp 1), type := 3, pos := "line.go:106", after := #[], guard := none }) (v := ?_) rfl (by kernel_rfl) (by kernel_rfl) (by kernel_rfl) (fun _ _ _ h => h) (Or.inl ⟨by rfl, ?_⟩) (Rg.free _) ?_
    rotate_left
    · (intro w hSw; (try dsimp only at hSw); go_simp); (try with_reducible rfl)
    simp only [Act.put, List.setIfInBounds_toArray, List.set_cons_zero, List.set_cons_succ]
    refine wpAnyH_take (i := 5) (oi := { dst := some 22, op := Op.move (Operand.tmp 2), type := 3, pos := "line.go:106", after := #[], guard := none }) (v := ?_) rfl (by kernel_rfl) (by kernel_rfl) (by kernel_rfl) (fun _ _ _ h => h) (Or.inl ⟨by rfl, ?_⟩) (Rg.free _) ?_
    rotate_left
    · (intro w hSw; (try dsimp only at hSw); go_simp); (try with_reducible rfl)
    simp only [Act.put, List.setIfInBounds_toArray, List.set_cons_zero, List.set_cons_succ]
    refine wpAnyH_take (i := 6) (oi := { dst := some 23, op := Op.binOp BinOp.add 3 (Operand.tmp 21) (Operand.tmp 22) 3, type := 3, pos := "line.go:106", after := #[{ on := 4, ground := Ground.data }, { on := 5, ground := Ground.data }], guard := none }) (v := ?_) rfl (by kernel_rfl) (by kernel_rfl) (by kernel_rfl) (fun _ _ _ h => h) (Or.inl ⟨by rfl, ?_⟩) (Rg.free _) ?_
    rotate_left
    · (intro w hSw; (try dsimp only at hSw); go_simp); (try with_reducible rfl)
    simp only [Act.put, List.setIfInBounds_toArray, List.set_cons_zero, List.set_cons_succ]
    refine wpAnyH_take (i := 7) (oi := { dst := some 24, op := Op.slice 67 (Operand.tmp 20) (some (Operand.tmp 23)) none none, type := 67, pos := "line.go:106", after := #[{ on := 3, ground := Ground.data }, { on := 6, ground := Ground.data }], guard := none }) (v := ?_) rfl (by kernel_rfl) (by kernel_rfl) (by kernel_rfl) (fun _ _ _ h => h) (Or.inl ⟨by rfl, ?_⟩) (Rg.free _) ?_
    rotate_left
    · (intro w hSw; (try dsimp only at hSw); go_simp); (try with_reducible rfl)
    simp only [Act.put, List.setIfInBounds_toArray, List.set_cons_zero, List.set_cons_succ]
    refine wpAnyH_ready (rs := [2]) (by kernel_rfl) (by simp) ?_
    refine AllReadyH.cons (o := { dst := some 19, op := Op.call { callee := Callee.builtin Builtin.append, args := #[Operand.tmp 17, Operand.tmp 18], argTypes := #[67, 67] }, type := 67, pos := "line.go:106", after := #[{ on := 0, ground := Ground.data }, { on := 1, ground := Ground.data }], guard := none }) rfl (fun K hK => ?_) AllReadyH.nil
    refine Rg.step_append_run (by rfl) (.tmp 17) (.tmp 18) 67 (by rfl) _ _ (by rfl) (by rfl) hap1'.out ?_
    refine hK.out _ _ (Rg.free _) (fun _ => ?_)
    clear hK K
    simp only [Act.put, List.setIfInBounds_toArray, List.set_cons_zero, List.set_cons_succ]
    refine wpAnyH_ready (rs := [8]) (by kernel_rfl) (by simp) ?_
    refine AllReadyH.cons (o := { dst := some 25, op := Op.call { callee := Callee.builtin Builtin.append, args := #[Operand.tmp 19, Operand.tmp 24], argTypes := #[67, 67] }, type := 67, pos := "line.go:106", after := #[{ on := 2, ground := Ground.data }, { on := 7, ground := Ground.data }, { on := 2, ground := Ground.chain }], guard := none }) rfl (fun K hK => ?_) AllReadyH.nil
    refine Rg.step_append_run (by rfl) (.tmp 19) (.tmp 24) 67 (by rfl) _ _ (by rfl) (by rfl) (ha.out _) ?_
    refine hK.out _ _ (Rg.free _) (fun _ => ?_)
    clear hK K
    simp only [Act.put, List.setIfInBounds_toArray, List.set_cons_zero, List.set_cons_succ]
    refine wpAnyH_ready (rs := [9]) (by kernel_rfl) (by simp) ?_
    refine AllReadyH.cons (o := { dst := some 26, op := Op.convert 67 9 (Operand.tmp 25), type := 9, pos := "line.go:106", after := #[{ on := 8, ground := Ground.data }], guard := none }) rfl (fun K hK => ?_) AllReadyH.nil
    go_simp
    refine hK.out _ _ (Rg.free _) (fun _ => ?_)
    clear hK K
    try simp only [Act.put, List.setIfInBounds_toArray, List.set_cons_zero, List.set_cons_succ]
    refine wpAnyH_take (i := 10) (oi := { dst := some 8, op := Op.assign (Operand.tmp 26), type := 9, pos := "line.go:106", after := #[{ on := 9, ground := Ground.data }, { on := 8, ground := Ground.chain }, { on := 0, ground := Ground.phase }, { on := 1, ground := Ground.phase }, { on := 2, ground := Ground.phase }, { on := 3, ground := Ground.phase }, { on := 4, ground := Ground.phase }, { on := 5, ground := Ground.phase }, { on := 6, ground := Ground.phase }, { on := 7, ground := Ground.phase }, { on := 8, ground := Ground.phase }, { on := 9, ground := Ground.phase }], guard := none }) (v := ?_) rfl (by kernel_rfl) (by kernel_rfl) (by kernel_rfl) (fun _ _ _ h => h) (Or.inl ⟨by rfl, ?_⟩) (Rg.free _) ?_
    rotate_left
    · (intro w hSw; (try dsimp only at hSw); go_simp); (try with_reducible rfl)
    simp only [Act.put, List.setIfInBounds_toArray, List.set_cons_zero, List.set_cons_succ]
    refine wpAnyH_done (by kernel_rfl) ?_ _
    go_wp2
    go_ret
    exact ⟨rfl, hbw'.out⟩
  · have ha := Rg.hid (fun c2 => hap2a.out c2 hck)
    refine wp_region_held_drew (S := fun w' => Rg.Free w') (by kernel_rfl) (Rg.free _) (fun hH => ?_)
    refine wpAnyH_take (i := 0) (oi := { dst := some 17, op := Op.move (Operand.tmp 10), type := 67, pos := "line.go:106", after := #[], guard := none }) (v := ?_) rfl (by kernel_rfl) (by kernel_rfl) (by kernel_rfl) (fun _ _ _ h => h) (Or.inl ⟨by rfl, ?_⟩) (Rg.free _) ?_
    rotate_left
    · (intro w hSw; (try dsimp only at hSw); go_simp); (try with_reducible rfl)
    simp only [Act.put, List.setIfInBounds_toArray, List.set_cons_zero, List.set_cons_succ]
    refine wpAnyH_take (i := 1) (oi := { dst := some 18, op := Op.move (Operand.tmp 3), type := 67, pos := "line.go:106", after := #[], guard := none }) (v := ?_) rfl (by kernel_rfl) (by kernel_rfl) (by kernel_rfl) (fun _ _ _ h => h) (Or.inl ⟨by rfl, ?_⟩) (Rg.free _) ?_
    rotate_left
    · (intro w hSw; (try dsimp only at hSw); go_simp); (try with_reducible rfl)
    simp only [Act.put, List.setIfInBounds_toArray, List.set_cons_zero, List.set_cons_succ]
    refine wpAnyH_take (i := 3) (oi := { dst := some 20, op := Op.move (Operand.tmp 9), type := 67, pos := "line.go:106", after := #[], guard := none }) (v := ?_) rfl (by kernel_rfl) (by kernel_rfl) (by kernel_rfl) (fun _ _ _ h => h) (Or.inl ⟨by rfl, ?_⟩) (Rg.free _) ?_
    rotate_left
    · (intro w hSw; (try dsimp only at hSw); go_simp); (try with_reducible rfl)
    simp only [Act.put, List.setIfInBounds_toArray, List.set_cons_zero, List.set_cons_succ]
    refine wpAnyH_take (i := 4) (oi := { dst := some 21, op := Op.move (Operand.tmp 1), type := 3, pos := "line.go:106", after := #[], guard := none }) (v := ?_) rfl (by kernel_rfl) (by kernel_rfl) (by kernel_rfl) (fun _ _ _ h => h) (Or.inl ⟨by rfl, ?_⟩) (Rg.free _) ?_
    rotate_left
    · (intro w hSw; (try dsimp only at hSw); go_simp); (try with_reducible rfl)
    simp only [Act.put, List.setIfInBounds_toArray, List.set_cons_zero, List.set_cons_succ]
    refine wpAnyH_take (i := 5) (oi := { dst := some 22, op := Op.move (Operand.tmp 2), type := 3, pos := "line.go:106", after := #[], guard := none }) (v := ?_) rfl (by kernel_rfl) (by kernel_rfl) (by kernel_rfl) (fun _ _ _ h => h) (Or.inl ⟨by rfl, ?_⟩) (Rg.free _) ?_
    rotate_left
    · (intro w hSw; (try dsimp only at hSw); go_simp); (try with_reducible rfl)
    simp only [Act.put, List.setIfInBounds_toArray, List.set_cons_zero, List.set_cons_succ]
    refine wpAnyH_take (i := 6) (oi := { dst := some 23, op := Op.binOp BinOp.add 3 (Operand.tmp 21) (Operand.tmp 22) 3, type := 3, pos := "line.go:106", after := #[{ on := 4, ground := Ground.data }, { on := 5, ground := Ground.data }], guard := none }) (v := ?_) rfl (by kernel_rfl) (by kernel_rfl) (by kernel_rfl) (fun _ _ _ h => h) (Or.inl ⟨by rfl, ?_⟩) (Rg.free _) ?_
    rotate_left
    · (intro w hSw; (try dsimp only at hSw); go_simp); (try with_reducible rfl)
    simp only [Act.put, List.setIfInBounds_toArray, List.set_cons_zero, List.set_cons_succ]
    refine wpAnyH_take (i := 7) (oi := { dst := some 24, op := Op.slice 67 (Operand.tmp 20) (some (Operand.tmp 23)) none none, type := 67, pos := "line.go:106", after := #[{ on := 3, ground := Ground.data }, { on := 6, ground := Ground.data }], guard := none }) (v := ?_) rfl (by kernel_rfl) (by kernel_rfl) (by kernel_rfl) (fun _ _ _ h => h) (Or.inl ⟨by rfl, ?_⟩) (Rg.free _) ?_
    rotate_left
    · (intro w hSw; (try dsimp only at hSw); go_simp); (try with_reducible rfl)
    simp only [Act.put, List.setIfInBounds_toArray, List.set_cons_zero, List.set_cons_succ]
    refine wpAnyH_ready (rs := [2]) (by kernel_rfl) (by simp) ?_
    refine AllReadyH.cons (o := { dst := some 19, op := Op.call { callee := Callee.builtin Builtin.append, args := #[Operand.tmp 17, Operand.tmp 18], argTypes := #[67, 67] }, type := 67, pos := "line.go:106", after := #[{ on := 0, ground := Ground.data }, { on := 1, ground := Ground.data }], guard := none }) rfl (fun K hK => ?_) AllReadyH.nil
    refine Rg.step_append_run (by rfl) (.tmp 17) (.tmp 18) 67 (by rfl) _ _ (by rfl) (by rfl) hap1'.out ?_
    refine hK.out _ _ (Rg.free _) (fun _ => ?_)
    clear hK K
    simp only [Act.put, List.setIfInBounds_toArray, List.set_cons_zero, List.set_cons_succ]
    refine wpAnyH_ready (rs := [8]) (by kernel_rfl) (by simp) ?_
    refine AllReadyH.cons (o := { dst := some 25, op := Op.call { callee := Callee.builtin Builtin.append, args := #[Operand.tmp 19, Operand.tmp 24], argTypes := #[67, 67] }, type := 67, pos := "line.go:106", after := #[{ on := 2, ground := Ground.data }, { on := 7, ground := Ground.data }, { on := 2, ground := Ground.chain }], guard := none }) rfl (fun K hK => ?_) AllReadyH.nil
    refine Rg.step_append_run (by rfl) (.tmp 19) (.tmp 24) 67 (by rfl) _ _ (by rfl) (by rfl) (ha.out _) ?_
    refine hK.out _ _ (Rg.free _) (fun _ => ?_)
    clear hK K
    simp only [Act.put, List.setIfInBounds_toArray, List.set_cons_zero, List.set_cons_succ]
    refine wpAnyH_ready (rs := [9]) (by kernel_rfl) (by simp) ?_
    refine AllReadyH.cons (o := { dst := some 26, op := Op.convert 67 9 (Operand.tmp 25), type := 9, pos := "line.go:106", after := #[{ on := 8, ground := Ground.data }], guard := none }) rfl (fun K hK => ?_) AllReadyH.nil
    go_simp
    refine hK.out _ _ (Rg.free _) (fun _ => ?_)
    clear hK K
    try simp only [Act.put, List.setIfInBounds_toArray, List.set_cons_zero, List.set_cons_succ]
    refine wpAnyH_take (i := 10) (oi := { dst := some 8, op := Op.assign (Operand.tmp 26), type := 9, pos := "line.go:106", after := #[{ on := 9, ground := Ground.data }, { on := 8, ground := Ground.chain }, { on := 0, ground := Ground.phase }, { on := 1, ground := Ground.phase }, { on := 2, ground := Ground.phase }, { on := 3, ground := Ground.phase }, { on := 4, ground := Ground.phase }, { on := 5, ground := Ground.phase }, { on := 6, ground := Ground.phase }, { on := 7, ground := Ground.phase }, { on := 8, ground := Ground.phase }, { on := 9, ground := Ground.phase }], guard := none }) (v := ?_) rfl (by kernel_rfl) (by kernel_rfl) (by kernel_rfl) (fun _ _ _ h => h) (Or.inl ⟨by rfl, ?_⟩) (Rg.free _) ?_
    rotate_left
    · (intro w hSw; (try dsimp only at hSw); go_simp); (try with_reducible rfl)
    simp only [Act.put, List.setIfInBounds_toArray, List.set_cons_zero, List.set_cons_succ]
    refine wpAnyH_done (by kernel_rfl) ?_ _
    go_wp2
    go_ret
    exact ⟨rfl, hbw'.out⟩

set_option maxHeartbeats 1000000 in
set_option maxRecDepth 100000 in
theorem splice_in (s : ByteArray) (k d : Nat) (c : UInt8) (vb : Nat) (w : World) (hs : s.size ≤ 1000000000) (hk : k + d ≤ s.size) (hv : ∀ W, Below w.heap.size w W → W.cell? ⟨vb, 0, none⟩ = some (.int .u8 (c.toNat : Int))) :
    Calls Try.prog 40 #[.string s, .int .i64 k, .int .i64 d, .slice (some ⟨vb, 0, none⟩) 1 1] w fun e w' => e = .returned (.string ⟨((s.data.toList.take k ++ [c]) ++ s.data.toList.drop (k + d)).toArray⟩) ∧ Below w.heap.size w w' := by
  obtain ⟨i0, hi, hz0, hz1, hz2⟩ := infoByte'
  have hcv := run_bytes_of_string (P := Try.prog) w 9 67 5 s Try.underlying9 Try.underlying67 Try.underlying5
  have hat := bytes_at w s (grownCap w s.size 0 5) ((bytesRow s (grownCap w s.size 0 5)).size, (bytesRow s (grownCap w s.size 0 5)).size + 1)
  have hbl : Below w.heap.size w (w.drew.alloc (.cells (bytesRow s (grownCap w s.size 0 5)) 5 ((bytesRow s (grownCap w s.size 0 5)).size, (bytesRow s (grownCap w s.size 0 5)).size + 1))) := ((Below.refl _ w).drew).alloc (Nat.le_refl _) _
  have hAl : w.heap.size < (w.drew.alloc (.cells (bytesRow s (grownCap w s.size 0 5)) 5 ((bytesRow s (grownCap w s.size 0 5)).size, (bytesRow s (grownCap w s.size 0 5)).size + 1))).heap.size := by
    show _ < (w.heap.push _).size
    simp
  have hcp := grownCap_ge w s.size 0 5
  have hlen : s.size = s.data.toList.length := rfl
  generalize (w.drew.alloc (.cells (bytesRow s (grownCap w s.size 0 5)) 5 ((bytesRow s (grownCap w s.size 0 5)).size, (bytesRow s (grownCap w s.size 0 5)).size + 1))) = w1 at *
  generalize grownCap w s.size 0 5 = CP at *
  obtain ⟨bs, hbs⟩ : ∃ bs, bs = s.data.toList := ⟨_, rfl⟩
  rw [← hbs] at hat hlen ⊢
  obtain ⟨N, hN⟩ : ∃ N, N = s.size := ⟨_, rfl⟩
  rw [← hN] at hcv hcp hlen hk hs
  have hcv' : Hid ((convert 9 67 (.string s)).run Try.prog w = .ok (.slice (some ⟨w.heap.size, 0, none⟩) N CP) w1) := hcv
  have hkN : k ≤ N := by omega
  have htl : (bs.take k).length = k := by rw [List.length_take]; omega
  have hatk : Rg.At w1.drew w.heap.size 0 (byteE.flat (bs.take k)) := by
    have h := hat
    rw [← List.take_append_drop k bs, byteE.flat_append] at h
    exact h.left
  have hatd : Rg.At w1.drew w.heap.size (k + d) (byteE.flat (bs.drop (k + d))) := by
    have h := hat
    rw [← List.take_append_drop (k + d) bs, byteE.flat_append] at h
    have := h.right (k := k + d) (by rw [byteE.flat_length, List.length_take]; show min (k + d) bs.length * 1 = k + d; omega)
    rw [Nat.zero_add] at this
    exact this
  have hdl : (bs.drop (k + d)).length = N - (k + d) := by rw [List.length_drop, hlen]
  have hcc : Rg.At w1.drew vb 0 (byteE.flat [c]) := fun t u ht => by
    rw [byteE.flat_one] at ht
    have e : t = 0 := by have := (List.getElem?_eq_some_iff.1 ht).1; simpa [byteE] using this
    subst e
    rw [← ht]
    exact (hv w1.drew hbl.drew)
  obtain ⟨g2, cap2, rest2, w2, hap1, hO2, hb2⟩ := Rg.El.appendRow_full (P := Try.prog) (E := byteE) w1.drew w.heap.size 0 (bs.take k) hatk [c] (by simp) 67 67 i0 _ 1 Try.underlying67 hi hz0 hz1 hz2 rfl vb 0 1 hcc (by rw [htl]; simp; omega) (by rw [htl]; unfold maxLen; simp; omega)
  rw [htl, List.length_singleton] at hap1
  have hatd2 : Rg.At w2 w.heap.size (k + d) (byteE.flat (bs.drop (k + d))) := hatd.below hb2 hAl
  have hO2n : (bs.take k ++ [c]).length = k + 1 := by rw [List.length_append, htl]; rfl
  have key : (∃ b3 o3 cap3 w3, (∀ a2 c2, (a2 = some ⟨w.heap.size, k + d, none⟩ ∨ N = k + d) → (Builtin.append_ #[67, 67] 67 #[.slice (some ⟨g2, 0, none⟩) (k + 1) cap2, .slice a2 (N - (k + d)) c2]).run Try.prog w2 = .ok (.slice (some ⟨b3, o3, none⟩) ((k + 1) + (N - (k + d))) cap3) w3) ∧ (convert 67 9 (.slice (some ⟨b3, o3, none⟩) ((k + 1) + (N - (k + d))) cap3)).run Try.prog w3 = .ok (.string ⟨((bs.take k ++ [c]) ++ bs.drop (k + d)).toArray⟩) w3 ∧ Below w.heap.size w w3) := by
    by_cases hm : N = k + d
    · refine ⟨g2, 0, cap2, w2, fun a2 c2 _ => ?_, ?_, (hbl.drew).trans (hb2.mono hbl.drew.size)⟩
      · rw [show N - (k + d) = 0 by omega]
        exact Rg.append_none w2 _ _ 5 i0 Try.underlying67 hi _ _ _ _ _ (by have := hO2.le; omega)
      · have := conv_bytes (cap := cap2) hO2.row
        rw [hO2n] at this
        rw [show k + 1 + (N - (k + d)) = k + 1 by omega, this, List.drop_eq_nil_of_le (by omega), List.append_nil]
    · obtain ⟨g3, cap3, rest3, w3, hO3⟩ : ∃ g3 cap3 rest3 w3, (∀ c2, (Builtin.append_ #[67, 67] 67 #[.slice (some ⟨g2, 0, none⟩) (k + 1) cap2, .slice (some ⟨w.heap.size, k + d, none⟩) (N - (k + d)) c2]).run Try.prog w2 = .ok (.slice (some ⟨g3, 0, none⟩) (k + 1 + (N - (k + d))) cap3) w3) ∧ byteE.Own w1.heap.size w3 g3 cap3 ((bs.take k ++ [c]) ++ bs.drop (k + d)) rest3 ∧ Below w1.heap.size w2 w3 := by
        obtain ⟨g3, cap3, rest3, w3, h1, h2, h3, _, _⟩ := hO2.appendRow (P := Try.prog) (bs.drop (k + d)) 67 67 i0 _ 1 Try.underlying67 hi hz0 hz1 hz2 rfl (some ⟨w.heap.size, k + d, none⟩) 0 (.inr ⟨_, _, rfl, Nat.lt_of_lt_of_le hAl hb2.size, hatd2⟩) hb2.size (by rw [hO2n, hdl]; omega) (by rw [hO2n, hdl]; unfold maxLen; omega)
        rw [hO2n, hdl] at h1
        exact ⟨g3, cap3, rest3, w3, fun c2 => h1, h2, h3⟩
      obtain ⟨h1, h2, h3⟩ := hO3
      refine ⟨g3, 0, cap3, w3, fun a2 c2 h => ?_, ?_, (hbl.drew).trans ((hb2.trans h3).mono hbl.drew.size)⟩
      · rcases h with rfl | h
        · exact h1 c2
        · exact absurd h hm
      · have := conv_bytes (cap := cap3) h2.row
        rw [List.length_append, hO2n, hdl] at this
        exact this
  obtain ⟨b3, o3, cap3, w3, hap2, hcb, hbw⟩ := key
  have hap1' : Hid ((Builtin.append_ #[67, 67] 67 #[.slice (some ⟨w.heap.size, 0, none⟩) k k, .slice (some ⟨vb, 0, none⟩) 1 1]).run Try.prog w1.drew = .ok (.slice (some ⟨g2, 0, none⟩) (k + 1) cap2) w2) := hap1
  have hap2' := Rg.hid hap2
  have hcb' := Rg.hid hcb
  have hbw' := Rg.hid hbw
  generalize ((bs.take k ++ [c]) ++ bs.drop (k + d)).toArray = RA at *
  obtain ⟨K, hK⟩ : ∃ K, K = k + d := ⟨_, rfl⟩
  have hwr : IntKind.i64.wrap ((k : Int) + (d : Int)) = (K : Int) := by rw [IntKind.wrap_i64]; omega
  rw [← hK] at hap2' hcb' hk
  have e0 : (0 : Int) ≤ (k : Int) := by omega
  have e1 : (k : Int) ≤ (CP : Int) := by omega
  have e2 : (0 : Int) ≤ (K : Int) := by omega
  have e3 : (K : Int) ≤ (N : Int) := by omega
  have hNs : (s.size : Int) = (N : Int) := by rw [hN]
  have hap2a : Hid (∀ c2, ¬ CP = K → (Builtin.append_ #[67, 67] 67 #[.slice (some ⟨g2, 0, none⟩) (k + 1) cap2, .slice (some ⟨w.heap.size, K, none⟩) (N - K) c2]).run Try.prog w2 = .ok (.slice (some ⟨b3, o3, none⟩) ((k + 1) + (N - K)) cap3) w3) := fun c2 _ => hap2'.out _ c2 (.inl rfl)
  have hap2b : Hid (∀ c2, CP = K → (Builtin.append_ #[67, 67] 67 #[.slice (some ⟨g2, 0, none⟩) (k + 1) cap2, .slice (some ⟨w.heap.size, 0, none⟩) (N - K) c2]).run Try.prog w2 = .ok (.slice (some ⟨b3, o3, none⟩) ((k + 1) + (N - K)) cap3) w3) := fun c2 h => hap2'.out _ c2 (.inr (by omega))
  replace hK := Rg.hid hK
  clear hcv hat hbl hAl hlen hbs hatk hatd hdl htl hap2 hcb hbw hap2' hi hz0 hz1 hz2 hN hcc hap1 hO2 hb2 hatd2 hO2n hv
  go_enter Try.func40, Try.ntmps40
  go_upto_region 3 with (rw [hcv'.out])
  have hcb := hcb'.out
  clear hcv'
  by_cases hck : CP = K
  · have ha := Rg.hid (fun c2 => hap2b.out c2 hck)
    refine wp_region_held_drew (S := fun w' => Rg.Free w') (by kernel_rfl) (Rg.free _) (fun hH => ?_)
    refine wpAnyH_take (i := 0) (oi := { dst := some 17, op := Op.move (Operand.tmp 10), type := 67, pos := "line.go:106", after := #[], guard := none }) (v := ?_) rfl (by kernel_rfl) (by kernel_rfl) (by kernel_rfl) (fun _ _ _ h => h) (Or.inl ⟨by rfl, ?_⟩) (Rg.free _) ?_
    rotate_left
    · (intro w hSw; (try dsimp only at hSw); go_simp); (try with_reducible rfl)
    simp only [Act.put, List.setIfInBounds_toArray, List.set_cons_zero, List.set_cons_succ]
    refine wpAnyH_take (i := 1) (oi := { dst := some 18, op := Op.move (Operand.tmp 3), type := 67, pos := "line.go:106", after := #[], guard := none }) (v := ?_) rfl (by kernel_rfl) (by kernel_rfl) (by kernel_rfl) (fun _ _ _ h => h) (Or.inl ⟨by rfl, ?_⟩) (Rg.free _) ?_
    rotate_left
    · (intro w hSw; (try dsimp only at hSw); go_simp); (try with_reducible rfl)
    simp only [Act.put, List.setIfInBounds_toArray, List.set_cons_zero, List.set_cons_succ]
    refine wpAnyH_take (i := 3) (oi := { dst := some 20, op := Op.move (Operand.tmp 9), type := 67, pos := "line.go:106", after := #[], guard := none }) (v := ?_) rfl (by kernel_rfl) (by kernel_rfl) (by kernel_rfl) (fun _ _ _ h => h) (Or.inl ⟨by rfl, ?_⟩) (Rg.free _) ?_
    rotate_left
    · (intro w hSw; (try dsimp only at hSw); go_simp); (try with_reducible rfl)
    simp only [Act.put, List.setIfInBounds_toArray, List.set_cons_zero, List.set_cons_succ]
    refine wpAnyH_take (i := 4) (oi := { dst := some 21, op := Op.move (Operand.tmp 1), type := 3, pos := "line.go:106", after := #[], guard := none }) (v := ?_) rfl (by kernel_rfl) (by kernel_rfl) (by kernel_rfl) (fun _ _ _ h => h) (Or.inl ⟨by rfl, ?_⟩) (Rg.free _) ?_
    rotate_left
    · (intro w hSw; (try dsimp only at hSw); go_simp); (try with_reducible rfl)
    simp only [Act.put, List.setIfInBounds_toArray, List.set_cons_zero, List.set_cons_succ]
    refine wpAnyH_take (i := 5) (oi := { dst := some 22, op := Op.move (Operand.tmp 2), type := 3, pos := "line.go:106", after := #[], guard := none }) (v := ?_) rfl (by kernel_rfl) (by kernel_rfl) (by kernel_rfl) (fun _ _ _ h => h) (Or.inl ⟨by rfl, ?_⟩) (Rg.free _) ?_
    rotate_left
    · (intro w hSw; (try dsimp only at hSw); go_simp); (try with_reducible rfl)
    simp only [Act.put, List.setIfInBounds_toArray, List.set_cons_zero, List.set_cons_succ]
    refine wpAnyH_take (i := 6) (oi := { dst := some 23, op := Op.binOp BinOp.add 3 (Operand.tmp 21) (Operand.tmp 22) 3, type := 3, pos := "line.go:106", after := #[{ on := 4, ground := Ground.data }, { on := 5, ground := Ground.data }], guard := none }) (v := ?_) rfl (by kernel_rfl) (by kernel_rfl) (by kernel_rfl) (fun _ _ _ h => h) (Or.inl ⟨by rfl, ?_⟩) (Rg.free _) ?_
    rotate_left
    · (intro w hSw; (try dsimp only at hSw); go_simp); (try with_reducible rfl)
    simp only [Act.put, List.setIfInBounds_toArray, List.set_cons_zero, List.set_cons_succ]
    refine wpAnyH_take (i := 7) (oi := { dst := some 24, op := Op.slice 67 (Operand.tmp 20) (some (Operand.tmp 23)) none none, type := 67, pos := "line.go:106", after := #[{ on := 3, ground := Ground.data }, { on := 6, ground := Ground.data }], guard := none }) (v := ?_) rfl (by kernel_rfl) (by kernel_rfl) (by kernel_rfl) (fun _ _ _ h => h) (Or.inl ⟨by rfl, ?_⟩) (Rg.free _) ?_
    rotate_left
    · (intro w hSw; (try dsimp only at hSw); go_simp); (try with_reducible rfl)
    simp only [Act.put, List.setIfInBounds_toArray, List.set_cons_zero, List.set_cons_succ]
    refine wpAnyH_ready (rs := [2]) (by kernel_rfl) (by simp) ?_
    refine AllReadyH.cons (o := { dst := some 19, op := Op.call { callee := Callee.builtin Builtin.append, args := #[Operand.tmp 17, Operand.tmp 18], argTypes := #[67, 67] }, type := 67, pos := "line.go:106", after := #[{ on := 0, ground := Ground.data }, { on := 1, ground := Ground.data }], guard := none }) rfl (fun K hK => ?_) AllReadyH.nil
    refine Rg.step_append_run (by rfl) (.tmp 17) (.tmp 18) 67 (by rfl) _ _ (by rfl) (by rfl) hap1'.out ?_
    refine hK.out _ _ (Rg.free _) (fun _ => ?_)
    clear hK K
    simp only [Act.put, List.setIfInBounds_toArray, List.set_cons_zero, List.set_cons_succ]
    refine wpAnyH_ready (rs := [8]) (by kernel_rfl) (by simp) ?_
    refine AllReadyH.cons (o := { dst := some 25, op := Op.call { callee := Callee.builtin Builtin.append, args := #[Operand.tmp 19, Operand.tmp 24], argTypes := #[67, 67] }, type := 67, pos := "line.go:106", after := #[{ on := 2, ground := Ground.data }, { on := 7, ground := Ground.data }, { on := 2, ground := Ground.chain }], guard := none }) rfl (fun K hK => ?_) AllReadyH.nil
    refine Rg.step_append_run (by rfl) (.tmp 19) (.tmp 24) 67 (by rfl) _ _ (by rfl) (by rfl) (ha.out _) ?_
    refine hK.out _ _ (Rg.free _) (fun _ => ?_)
    clear hK K
    simp only [Act.put, List.setIfInBounds_toArray, List.set_cons_zero, List.set_cons_succ]
    refine wpAnyH_ready (rs := [9]) (by kernel_rfl) (by simp) ?_
    refine AllReadyH.cons (o := { dst := some 26, op := Op.convert 67 9 (Operand.tmp 25), type := 9, pos := "line.go:106", after := #[{ on := 8, ground := Ground.data }], guard := none }) rfl (fun K hK => ?_) AllReadyH.nil
    go_simp
    refine hK.out _ _ (Rg.free _) (fun _ => ?_)
    clear hK K
    try simp only [Act.put, List.setIfInBounds_toArray, List.set_cons_zero, List.set_cons_succ]
    refine wpAnyH_take (i := 10) (oi := { dst := some 8, op := Op.assign (Operand.tmp 26), type := 9, pos := "line.go:106", after := #[{ on := 9, ground := Ground.data }, { on := 8, ground := Ground.chain }, { on := 0, ground := Ground.phase }, { on := 1, ground := Ground.phase }, { on := 2, ground := Ground.phase }, { on := 3, ground := Ground.phase }, { on := 4, ground := Ground.phase }, { on := 5, ground := Ground.phase }, { on := 6, ground := Ground.phase }, { on := 7, ground := Ground.phase }, { on := 8, ground := Ground.phase }, { on := 9, ground := Ground.phase }], guard := none }) (v := ?_) rfl (by kernel_rfl) (by kernel_rfl) (by kernel_rfl) (fun _ _ _ h => h) (Or.inl ⟨by rfl, ?_⟩) (Rg.free _) ?_
    rotate_left
    · (intro w hSw; (try dsimp only at hSw); go_simp); (try with_reducible rfl)
    simp only [Act.put, List.setIfInBounds_toArray, List.set_cons_zero, List.set_cons_succ]
    refine wpAnyH_done (by kernel_rfl) ?_ _
    go_wp2
    go_ret
    exact ⟨rfl, hbw'.out⟩
  · have ha := Rg.hid (fun c2 => hap2a.out c2 hck)
    refine wp_region_held_drew (S := fun w' => Rg.Free w') (by kernel_rfl) (Rg.free _) (fun hH => ?_)
    refine wpAnyH_take (i := 0) (oi := { dst := some 17, op := Op.move (Operand.tmp 10), type := 67, pos := "line.go:106", after := #[], guard := none }) (v := ?_) rfl (by kernel_rfl) (by kernel_rfl) (by kernel_rfl) (fun _ _ _ h => h) (Or.inl ⟨by rfl, ?_⟩) (Rg.free _) ?_
    rotate_left
    · (intro w hSw; (try dsimp only at hSw); go_simp); (try with_reducible rfl)
    simp only [Act.put, List.setIfInBounds_toArray, List.set_cons_zero, List.set_cons_succ]
    refine wpAnyH_take (i := 1) (oi := { dst := some 18, op := Op.move (Operand.tmp 3), type := 67, pos := "line.go:106", after := #[], guard := none }) (v := ?_) rfl (by kernel_rfl) (by kernel_rfl) (by kernel_rfl) (fun _ _ _ h => h) (Or.inl ⟨by rfl, ?_⟩) (Rg.free _) ?_
    rotate_left
    · (intro w hSw; (try dsimp only at hSw); go_simp); (try with_reducible rfl)
    simp only [Act.put, List.setIfInBounds_toArray, List.set_cons_zero, List.set_cons_succ]
    refine wpAnyH_take (i := 3) (oi := { dst := some 20, op := Op.move (Operand.tmp 9), type := 67, pos := "line.go:106", after := #[], guard := none }) (v := ?_) rfl (by kernel_rfl) (by kernel_rfl) (by kernel_rfl) (fun _ _ _ h => h) (Or.inl ⟨by rfl, ?_⟩) (Rg.free _) ?_
    rotate_left
    · (intro w hSw; (try dsimp only at hSw); go_simp); (try with_reducible rfl)
    simp only [Act.put, List.setIfInBounds_toArray, List.set_cons_zero, List.set_cons_succ]
    refine wpAnyH_take (i := 4) (oi := { dst := some 21, op := Op.move (Operand.tmp 1), type := 3, pos := "line.go:106", after := #[], guard := none }) (v := ?_) rfl (by kernel_rfl) (by kernel_rfl) (by kernel_rfl) (fun _ _ _ h => h) (Or.inl ⟨by rfl, ?_⟩) (Rg.free _) ?_
    rotate_left
    · (intro w hSw; (try dsimp only at hSw); go_simp); (try with_reducible rfl)
    simp only [Act.put, List.setIfInBounds_toArray, List.set_cons_zero, List.set_cons_succ]
    refine wpAnyH_take (i := 5) (oi := { dst := some 22, op := Op.move (Operand.tmp 2), type := 3, pos := "line.go:106", after := #[], guard := none }) (v := ?_) rfl (by kernel_rfl) (by kernel_rfl) (by kernel_rfl) (fun _ _ _ h => h) (Or.inl ⟨by rfl, ?_⟩) (Rg.free _) ?_
    rotate_left
    · (intro w hSw; (try dsimp only at hSw); go_simp); (try with_reducible rfl)
    simp only [Act.put, List.setIfInBounds_toArray, List.set_cons_zero, List.set_cons_succ]
    refine wpAnyH_take (i := 6) (oi := { dst := some 23, op := Op.binOp BinOp.add 3 (Operand.tmp 21) (Operand.tmp 22) 3, type := 3, pos := "line.go:106", after := #[{ on := 4, ground := Ground.data }, { on := 5, ground := Ground.data }], guard := none }) (v := ?_) rfl (by kernel_rfl) (by kernel_rfl) (by kernel_rfl) (fun _ _ _ h => h) (Or.inl ⟨by rfl, ?_⟩) (Rg.free _) ?_
    rotate_left
    · (intro w hSw; (try dsimp only at hSw); go_simp); (try with_reducible rfl)
    simp only [Act.put, List.setIfInBounds_toArray, List.set_cons_zero, List.set_cons_succ]
    refine wpAnyH_take (i := 7) (oi := { dst := some 24, op := Op.slice 67 (Operand.tmp 20) (some (Operand.tmp 23)) none none, type := 67, pos := "line.go:106", after := #[{ on := 3, ground := Ground.data }, { on := 6, ground := Ground.data }], guard := none }) (v := ?_) rfl (by kernel_rfl) (by kernel_rfl) (by kernel_rfl) (fun _ _ _ h => h) (Or.inl ⟨by rfl, ?_⟩) (Rg.free _) ?_
    rotate_left
    · (intro w hSw; (try dsimp only at hSw); go_simp); (try with_reducible rfl)
    simp only [Act.put, List.setIfInBounds_toArray, List.set_cons_zero, List.set_cons_succ]
    refine wpAnyH_ready (rs := [2]) (by kernel_rfl) (by simp) ?_
    refine AllReadyH.cons (o := { dst := some 19, op := Op.call { callee := Callee.builtin Builtin.append, args := #[Operand.tmp 17, Operand.tmp 18], argTypes := #[67, 67] }, type := 67, pos := "line.go:106", after := #[{ on := 0, ground := Ground.data }, { on := 1, ground := Ground.data }], guard := none }) rfl (fun K hK => ?_) AllReadyH.nil
    refine Rg.step_append_run (by rfl) (.tmp 17) (.tmp 18) 67 (by rfl) _ _ (by rfl) (by rfl) hap1'.out ?_
    refine hK.out _ _ (Rg.free _) (fun _ => ?_)
    clear hK K
    simp only [Act.put, List.setIfInBounds_toArray, List.set_cons_zero, List.set_cons_succ]
    refine wpAnyH_ready (rs := [8]) (by kernel_rfl) (by simp) ?_
    refine AllReadyH.cons (o := { dst := some 25, op := Op.call { callee := Callee.builtin Builtin.append, args := #[Operand.tmp 19, Operand.tmp 24], argTypes := #[67, 67] }, type := 67, pos := "line.go:106", after := #[{ on := 2, ground := Ground.data }, { on := 7, ground := Ground.data }, { on := 2, ground := Ground.chain }], guard := none }) rfl (fun K hK => ?_) AllReadyH.nil
    refine Rg.step_append_run (by rfl) (.tmp 19) (.tmp 24) 67 (by rfl) _ _ (by rfl) (by rfl) (ha.out _) ?_
    refine hK.out _ _ (Rg.free _) (fun _ => ?_)
    clear hK K
    simp only [Act.put, List.setIfInBounds_toArray, List.set_cons_zero, List.set_cons_succ]
    refine wpAnyH_ready (rs := [9]) (by kernel_rfl) (by simp) ?_
    refine AllReadyH.cons (o := { dst := some 26, op := Op.convert 67 9 (Operand.tmp 25), type := 9, pos := "line.go:106", after := #[{ on := 8, ground := Ground.data }], guard := none }) rfl (fun K hK => ?_) AllReadyH.nil
    go_simp
    refine hK.out _ _ (Rg.free _) (fun _ => ?_)
    clear hK K
    try simp only [Act.put, List.setIfInBounds_toArray, List.set_cons_zero, List.set_cons_succ]
    refine wpAnyH_take (i := 10) (oi := { dst := some 8, op := Op.assign (Operand.tmp 26), type := 9, pos := "line.go:106", after := #[{ on := 9, ground := Ground.data }, { on := 8, ground := Ground.chain }, { on := 0, ground := Ground.phase }, { on := 1, ground := Ground.phase }, { on := 2, ground := Ground.phase }, { on := 3, ground := Ground.phase }, { on := 4, ground := Ground.phase }, { on := 5, ground := Ground.phase }, { on := 6, ground := Ground.phase }, { on := 7, ground := Ground.phase }, { on := 8, ground := Ground.phase }, { on := 9, ground := Ground.phase }], guard := none }) (v := ?_) rfl (by kernel_rfl) (by kernel_rfl) (by kernel_rfl) (fun _ _ _ h => h) (Or.inl ⟨by rfl, ?_⟩) (Rg.free _) ?_
    rotate_left
    · (intro w hSw; (try dsimp only at hSw); go_simp); (try with_reducible rfl)
    simp only [Act.put, List.setIfInBounds_toArray, List.set_cons_zero, List.set_cons_succ]
    refine wpAnyH_done (by kernel_rfl) ?_ _
    go_wp2
    go_ret
    exact ⟨rfl, hbw'.out⟩
end Go.Proofs.Ytalleocmnnnchaa
