/-
  Layer 7: slices.Insert of one place.
-/
import Derived.Test.YtalleocmnnnchaaLn2
namespace Go.Proofs.Ytalleocmnnnchaa
open Go.RowKit

theorem Bk.shape {b : Nat} {C : List Value} {ty : TypeId} {W : World} (h : Rg.Bk b C ty W) : W.shape? b = some (ty, C.length) := by
  unfold Rg.Bk at h
  simp [World.shape?, h]
theorem ins_get {l : List Int} {i : Nat} {q : Int} (hi : i ≤ l.length) {j : Nat} (hj : j < (l.take i ++ q :: l.drop i).length) :
    (l.take i ++ q :: l.drop i)[j] = if h : j < i then l[j]'(by omega) else if h2 : j = i then q else l[j - 1]'(by simp at hj; omega) := by
  have hlen : (l.take i).length = i := by simp; omega
  split
  · rename_i h
    rw [List.getElem_append_left (by omega), List.getElem_take]
  · rename_i h
    rw [List.getElem_append_right (by omega)]
    split
    · rename_i h2
      simp [hlen, h2]
    · rename_i h2
      have : j - i = (j - 1 - i) + 1 := by omega
      simp only [hlen, this, List.getElem_cons_succ, List.getElem_drop]
      congr 1
      omega
theorem ins_len {l : List Int} {i : Nat} {q : Int} (hi : i ≤ l.length) : (l.take i ++ q :: l.drop i).length = l.length + 1 := by
  simp; omega

theorem zero_size (n : Nat) : (Builtin.zeroCells (Value.int .i64 0).cells n).size = n := by
  simp [Builtin.zeroCells, Value.cells]
theorem arr_app (x : List Value) (z : Array Value) : x.toArray ++ z = (x ++ z.toList).toArray := by simp

theorem insert_any (a : Option Addr) (c : Nat) (l : List Int) (i : Nat) (q : Int) (vb : Nat) (base : Nat) (w : World) (hn : l.length ≤ 1000000000) (hi : i ≤ l.length) (hbase : base ≤ w.heap.size) (hS : SI base w a c l)
    (hv : Rg.Bk vb [.int .i64 q] 3 w) (hvb : ∀ g o, a = some ⟨g, o, none⟩ → vb ≠ g) :
    Calls Try.prog 53 #[.slice a l.length c, .int .i64 i, .slice (some ⟨vb, 0, none⟩) 1 1] w fun e w' =>
      ∃ a' c', e = .returned (.slice a' (l.length + 1) c') ∧ IRow w' a' (l.take i ++ q :: l.drop i) ∧ l.length + 1 ≤ c' ∧ Below base w w' := by
  have hvs : ∀ j v, [Value.int .i64 q][j]? = some v → w.cell? ⟨vb, 0 + j, none⟩ = some v := fun j v h => by rw [Nat.zero_add, hv.cell j]; exact h
  have h1v : ∀ v ∈ [Value.int .i64 q], v.oneCell' = true := fun v h => by rw [List.mem_singleton] at h; subst h; rfl
  obtain ⟨cs, hcs⟩ : ∃ cs : List Value, cs = l.map (Value.int .i64) := ⟨_, rfl⟩
  have hcl : cs.length = l.length := by rw [hcs]; simp
  have hcg : ∀ j (hj : j < l.length), cs[j]? = some (.int .i64 l[j]) := fun j hj => by rw [hcs]; simp [hj]
  have h1c : ∀ v ∈ cs, v.oneCell' = true := fun v h => by rw [hcs, List.mem_map] at h; obtain ⟨x, _, rfl⟩ := h; rfl
  have hz : (Value.int .i64 0).cells.size = 1 := rfl
  have hrow := hS.irow
  have hle := hS.le
  -- at the end, without room: a new block
  have hgrow_end : i = l.length → c < l.length + 1 → Calls Try.prog 53 #[.slice a l.length c, .int .i64 i, .slice (some ⟨vb, 0, none⟩) 1 1] w fun e w' =>
      ∃ a' c', e = .returned (.slice a' (l.length + 1) c') ∧ IRow w' a' (l.take i ++ q :: l.drop i) ∧ l.length + 1 ≤ c' ∧ Below base w w' := fun hie hc => by
    have hh := Any2.slices_Insert_int_end_grow insLays a l.length c vb 0 1 1 cs [.int .i64 q] w (by omega) hle hc (by omega) hcl rfl
      (fun e => by rcases hrow.1 with ⟨_, h⟩ | ⟨b, o, h, _⟩; (· rw [h]; rfl); rw [h] at e; cases e)
      (fun x e j v hj => by
        rcases hrow.1 with ⟨h, _⟩ | ⟨b, o, h, _⟩
        · rw [h] at e; cases e
        · rw [h] at e; injection e with e; subst e
          rw [h] at hrow
          have hjl : j < l.length := by have := (List.getElem?_eq_some_iff.1 hj).1; omega
          rw [Addr.add_lit, hrow.cell hjl, ← hj, hcg j hjl]) hvs h1v
    subst hie
    refine Calls.mono hh fun e w' ⟨h1, h2⟩ => ⟨some ⟨w.heap.size, 0, none⟩, _, h1, ?_, grownCap_ge _ _ _ _, ?_⟩
    · have kk : Rg.Bk w.heap.size ((cs ++ [.int .i64 q]) ++ (Builtin.zeroCells (Value.int .i64 0).cells (grownCap w (l.length + 1) c 3 - (l.length + 1))).toList) 3 w' := by
        rw [h2]
        show Rg.Bk w.heap.size _ _ (w.drew.alloc (.cells ((cs ++ [Value.int .i64 q]).toArray ++ Builtin.zeroCells (Value.int .i64 0).cells (grownCap w (l.length + 1) c 3 - (l.length + 1))) 3))
        rw [arr_app]
        exact Rg.Bk.new rfl
      refine IRow.of kk fun j hj => ?_
      rw [ins_len (Nat.le_refl _)] at hj
      rw [Nat.zero_add, kk.cell j, List.getElem?_append_left (by simp [hcl]; omega), ins_get (Nat.le_refl _)]
      split
      · rename_i h
        rw [List.getElem?_append_left (by omega), hcg j h]
      · rename_i h
        rw [dif_pos (by omega), List.getElem?_append_right (by omega), show j - cs.length = 0 by omega]
        rfl
    · rw [h2]
      exact ((Below.refl base w).drew).alloc hbase _
  rcases hS with ⟨rfl, rfl, rfl⟩ | ⟨g, rest, rfl, hO⟩
  · exact hgrow_end (by simpa using hi) (by simp)
  have hg0 : vb ≠ g := hvb g 0 rfl
  have hgb := hO.new
  have hcap := hO.max
  unfold maxLen at hcap
  by_cases hroom : l.length + 1 ≤ c
  · have hcell : ∀ j, j < l.length → w.cell? ⟨g, 0 + j, none⟩ = cs[j]? := fun j hj => by rw [hrow.cell hj, hcg j hj]
    have hsome : ∀ j, j < l.length + 1 → (w.cell? ⟨g, 0 + j, none⟩).isSome = true := fun j hj => by
      rw [Nat.zero_add, hO.cell j]
      have := hO.fit
      have hm : intE.m = 1 := rfl
      rw [hm] at this
      rw [List.getElem?_eq_getElem (by omega)]
      rfl
    by_cases hie : i = l.length
    · subst hie
      have hh := Any2.slices_Insert_int_end_room insLays g 0 l.length c vb 0 1 1 [.int .i64 q] w (by omega) hroom (by omega) rfl
        (fun j hj => by rw [Nat.add_assoc]; exact hsome _ (by omega)) (fun j _ => hO.thaw _) hvs h1v
      refine Calls.mono hh fun e w' ⟨h1, h2⟩ => ⟨some ⟨g, 0, none⟩, c, h1, ?_, hroom, ?_⟩
      · rw [h2]
        obtain ⟨C', k'⟩ := Bk_setCells [.int .i64 q] (0 + l.length) hO.blk
        refine IRow.of k' fun j hj => ?_
        rw [ins_len (Nat.le_refl _)] at hj
        rw [ins_get (Nat.le_refl _)]
        split
        · rename_i h
          rw [World.cell?_setCells_out g _ _ _ _ (fun _ _ => .inl (by simp <;> omega)), hrow.cell h]
        · rename_i h
          rw [dif_pos (by omega), show j = l.length by omega]
          exact World.cell?_setCells_in g [.int .i64 q] (0 + l.length) w (fun j hj => by rw [Nat.add_assoc]; exact hsome _ (by simp at hj; omega)) 0 (by simp)
      · rw [h2]
        exact (Only_setCells g _ _ w).bel hgb
    · have hil : i < l.length := by omega
      have hh := Any2.slices_Insert_int_shift insLays g 0 l.length c i vb 0 1 1 cs [.int .i64 q] w hil (by omega) hroom (by omega) hg0 hcl rfl
        (fun j v hj => by rw [hcell j (by have := (List.getElem?_eq_some_iff.1 hj).1; omega)]; exact hj) hsome (fun j _ => hO.thaw _) hvs h1c h1v
        3 3 _ _ (Bk.shape hv) (Bk.shape hO.blk) (by rw [List.length_append, intE.flat_length]; have hm : intE.m = 1 := rfl; rw [hm]; omega) (hv.thaw _) (hv.thaw _)
      refine Calls.mono hh fun e w' ⟨h1, h2⟩ => ⟨some ⟨g, 0, none⟩, c, h1, ?_, hroom, ?_⟩
      · rw [h2]
        have hdl : (cs.drop i).length = l.length - i := by rw [List.length_drop, hcl]
        obtain ⟨C1, k1⟩ := Bk_setCells (cs.drop i) (0 + (i + 1)) (W := w.drew) hO.blk
        obtain ⟨C', k'⟩ := Bk_setCells [.int .i64 q] (0 + i) k1
        have hs1 : ∀ j, j < (cs.drop i).length → (w.drew.cell? ⟨g, 0 + (i + 1) + j, none⟩).isSome = true := fun j hj => by
          have := hsome (i + 1 + j) (by omega)
          rw [show 0 + (i + 1) + j = 0 + (i + 1 + j) by omega]; exact this
        refine IRow.of k' fun j hj => ?_
        rw [ins_len hi] at hj
        rw [ins_get hi]
        split
        · rename_i h
          rw [World.cell?_setCells_out g _ _ _ _ (fun _ _ => .inl (by simp <;> omega)), World.cell?_setCells_out g _ _ _ _ (fun _ _ => .inl (by simp <;> omega))]
          exact hrow.cell (by omega)
        · rename_i h
          split
          · rename_i h2
            subst h2
            exact World.cell?_setCells_in g [.int .i64 q] (0 + j) _ (fun j' hj' => by
              have : j' = 0 := by simp at hj'; omega
              subst this
              rw [World.cell?_setCells_out g _ _ _ _ (fun _ _ => .inl (by simp <;> omega))]
              exact hsome _ (by omega)) 0 (by simp)
          · rename_i h2
            rw [World.cell?_setCells_out g _ _ _ _ (fun _ _ => .inr (by simp <;> omega))]
            have := World.cell?_setCells_in g (cs.drop i) (0 + (i + 1)) w.drew hs1 (j - 1 - i) (by omega)
            rw [show 0 + (i + 1) + (j - 1 - i) = 0 + j by omega] at this
            rw [this, List.getElem_drop]
            have h3 := hcg (j - 1) (by omega)
            rw [List.getElem?_eq_getElem (by omega)] at h3
            rw [← h3]
            congr 2
            omega
      · rw [h2]
        exact (((Below.refl base w).drew).trans ((Only_setCells g _ _ _).bel hgb)).trans ((Only_setCells g _ _ _).bel hgb)
  · by_cases hie : i = l.length
    · exact hgrow_end hie (by omega)
    · have hil : i < l.length := by omega
      have hh := Any2.slices_Insert_int_grow insLays g 0 l.length c i vb 0 1 1 cs [.int .i64 q] w hil (by omega) hle (by omega) (by omega) hcl rfl
        (fun j v hj => by
          have hjl : j < l.length := by have := (List.getElem?_eq_some_iff.1 hj).1; omega
          rw [hrow.cell hjl, ← hj, hcg j hjl]) hvs h1c h1v
      refine Calls.mono hh fun e w' ⟨h1, h2⟩ => ⟨some ⟨w.heap.size, 0, none⟩, _, h1, ?_, grownCap_ge _ _ _ _, ?_⟩
      · obtain ⟨Z, hZ⟩ : ∃ Z : Array Value, Z = Builtin.zeroCells (Value.int .i64 0).cells (l.length + 1 - i) ++ Builtin.zeroCells (Value.int .i64 0).cells (grownCap w (l.length + 1) c 3 - (l.length + 1)) := ⟨_, rfl⟩
        have h2' : w' = (((w.alloc (.cells ((cs.take i).toArray ++ Z) 3)).drew.setCells w.heap.size i [.int .i64 q]).drew).setCells w.heap.size (i + 1) (cs.drop i) := by
          rw [h2, hZ, ← Array.append_assoc]; rfl
        have hZs : l.length + 1 - i ≤ Z.size := by
          rw [hZ, Array.size_append, zero_size]
          omega
        rw [arr_app] at h2'
        have htl : (cs.take i).length = i := by rw [List.length_take]; omega
        have k0 : Rg.Bk w.heap.size (cs.take i ++ Z.toList) 3 (w.alloc (.cells (cs.take i ++ Z.toList).toArray 3)) := Rg.Bk.new rfl
        have hs0 : ∀ j, j < l.length + 1 → ((w.alloc (.cells (cs.take i ++ Z.toList).toArray 3)).cell? ⟨w.heap.size, j, none⟩).isSome = true := fun j hj => by
          rw [k0.cell j, List.getElem?_eq_getElem (by rw [List.length_append, htl, Array.length_toList]; omega)]
          rfl
        generalize (w.alloc (.cells (cs.take i ++ Z.toList).toArray 3)) = W0 at *
        obtain ⟨C1, k1⟩ := Bk_setCells [.int .i64 q] i (W := W0.drew) k0
        have hq1 : (W0.drew.setCells w.heap.size i [.int .i64 q]).cell? ⟨w.heap.size, i, none⟩ = some (.int .i64 q) :=
          World.cell?_setCells_in w.heap.size [.int .i64 q] i W0.drew (fun j hj => by
            have : j = 0 := by simp at hj; omega
            subst this
            exact hs0 _ (by omega)) 0 (by simp)
        obtain ⟨C', k'⟩ := Bk_setCells (cs.drop i) (i + 1) (W := (W0.drew.setCells w.heap.size i [.int .i64 q]).drew) k1
        rw [h2']
        refine IRow.of k' fun j hj => ?_
        rw [ins_len hi] at hj
        rw [ins_get hi, Nat.zero_add]
        have hdl : (cs.drop i).length = l.length - i := by rw [List.length_drop, hcl]
        split
        · rename_i h
          rw [World.cell?_setCells_out _ _ _ _ _ (fun _ _ => .inl (by simp <;> omega))]
          show (W0.drew.setCells w.heap.size i [.int .i64 q]).cell? _ = _
          rw [World.cell?_setCells_out _ _ _ _ _ (fun _ _ => .inl (by simp <;> omega))]
          show W0.cell? _ = _
          rw [k0.cell j, List.getElem?_append_left (by omega), List.getElem?_take_of_lt h, hcg j (by omega)]
        · rename_i h
          split
          · rename_i h2
            subst h2
            rw [World.cell?_setCells_out _ _ _ _ _ (fun _ _ => .inl (by simp <;> omega))]
            exact hq1
          · rename_i h2
            have := World.cell?_setCells_in w.heap.size (cs.drop i) (i + 1) (W0.drew.setCells w.heap.size i [.int .i64 q]).drew (fun j hj => by
              show ((W0.drew.setCells w.heap.size i [.int .i64 q]).cell? _).isSome = true
              rw [World.cell?_setCells_out _ _ _ _ _ (fun _ _ => .inr (by simp <;> omega))]
              exact hs0 _ (by omega)) (j - 1 - i) (by omega)
            rw [show (i + 1) + (j - 1 - i) = j by omega] at this
            rw [this, List.getElem_drop]
            have h3 := hcg (j - 1) (by omega)
            rw [List.getElem?_eq_getElem (by omega)] at h3
            rw [← h3]
            congr 2
            omega
      · rw [h2]
        exact ((((Below.refl base w).alloc hbase _).drew.trans ((Only_setCells w.heap.size _ _ _).bel hbase)).drew).trans ((Only_setCells w.heap.size _ _ _).bel hbase)
end Go.Proofs.Ytalleocmnnnchaa
