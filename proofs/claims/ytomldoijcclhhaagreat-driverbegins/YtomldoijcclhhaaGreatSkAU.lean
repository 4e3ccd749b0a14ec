/-
  Walks of layer 16: a strings.Builder that is a field of an end: copyCheck, WriteString, String. Walks of layer 12: which kinds may be, numbers up to a bound, how many bytes a body has. Small facts on bytes, rows and worlds that layer 12 uses.
-/
import Derived.Test.YtomldoijcclhhaaGreatSkAT
import Derived.Shelf.Strings.BuilderK
import Derived.WalkKit
import Derived.Deep.DeepCutAuto
import Derived.Deep.RegionHeld3
import Derived.Test.YtomldoijcclhhaaGreatSkAR
import Derived.Test.YtomldoijcclhhaaGreatSkAB
import Derived.Laws.BytesArg
import Derived.Laws.IdiomStrings
import Derived.Lib.Builder
import Derived.Lib.BufferMore
import Derived.Deep.RegionWith
import Derived.Deep.RegionLaw
namespace Go.Proofs.YtomldoijcclhhaaGreat
open Go.RowKit
namespace Bi
theorem sizeB : (Tryz.prog.info? 67).map (·.size) = some 2 := by kernel_rfl
theorem lies18 : liesAt Tryz.prog Tryz.prog.depth 81 (21 / Tryz.prog.cellsOf 81) 18 67 1 = true := by kernel_rfl
theorem infoByte : (Tryz.prog.info? 5).map (fun i => (i.zero, i.size, i.bytes)) = some (some (.int .u8 0), 1, 1) := by kernel_rfl
theorem cellsByte : Tryz.prog.cellsOf 5 = 1 := by kernel_rfl

set_option maxHeartbeats 1000000 in
set_option maxRecDepth 100000 in
theorem check_used (b o : Nat) (w : World) (h0 : w.cell? ⟨b, o, none⟩ = some (.pointer (some ⟨b, o, none⟩))) :
    Calls Tryz.prog 128 #[.pointer (some ⟨b, o, none⟩)] w fun e w' => e = .returned (.tuple #[]) ∧ w' = w := by
  obtain ⟨j, hj, _⟩ := Option.map_eq_some_iff.1 sizeB
  go_enter Tryz.func128, Tryz.ntmps128
  go_wp2
  rw [Lib.run_neq_ptr_same w _ Tryz.underlying64 hj]
  go_wp2
  go_end0
  exact ⟨rfl, rfl⟩

set_option maxHeartbeats 1000000 in
set_option maxRecDepth 100000 in
theorem check_fresh (b o : Nat) (w : World) (h0 : w.cell? ⟨b, o, none⟩ = some (.pointer none)) (hsh : w.shape? b = some (81, 21)) (ho : o < 21) (hl : liesAt Tryz.prog Tryz.prog.depth 81 (21 / Tryz.prog.cellsOf 81) o 67 1 = true) (hfz : w.frozen? ⟨b, o, none⟩ = false) :
    Calls Tryz.prog 128 #[.pointer (some ⟨b, o, none⟩)] w fun e w' => e = .returned (.tuple #[]) ∧ w' = w.setCell ⟨b, o, none⟩ (.pointer (some ⟨b, o, none⟩)) := by
  obtain ⟨j, hj, hjs⟩ := Option.map_eq_some_iff.1 sizeB
  go_enter Tryz.func128, Tryz.ntmps128
  go_wp2
  rw [Lib.run_to_unsafe w ⟨b, o, none⟩ Tryz.underlying64 Tryz.underlying144 hj (by rw [hjs]; decide) hsh ho]
  simp only [Result.andThen]
  rw [Oper.upon_value]
  go_wp2
  rw [run_callFunc_extern Tryz.func171 (by kernel_rfl) (by kernel_rfl) (by kernel_rfl) (e := Extern.AbiNoEscape.same) (by kernel_rfl)]
  rw [Lib.run_noEscape]
  simp only [Result.andThen]
  rw [Oper.upon_value]
  go_wp2
  rw [Lib.run_from_unsafe w ⟨b, o, none⟩ Tryz.underlying144 Tryz.underlying64 hj hsh hl]
  simp only [Result.andThen]
  rw [Oper.upon_value]
  go_wp2
  go_end0
  exact ⟨rfl, rfl⟩

theorem check (b o : Nat) (C : List Value) (w : World) (hk : Rg.Bk b C 81 w) (hC : C.length = 21) (ho : o = 18) (h0 : C[o]? = some (.pointer none) ∨ C[o]? = some (.pointer (some ⟨b, o, none⟩))) :
    Calls Tryz.prog 128 #[.pointer (some ⟨b, o, none⟩)] w fun e w' => e = .returned (.tuple #[]) ∧ Rg.Bk b (C.set o (.pointer (some ⟨b, o, none⟩))) 81 w' ∧ Rg.Only b w w' := by
  rcases h0 with h0 | h0
  · refine (check_fresh b o w (by rw [hk.cell]; exact h0) (by unfold Rg.Bk at hk; simp [World.shape?, hk, hC]) (by omega) (by subst ho; exact lies18) (hk.thaw o)).mono ?_
    rintro e w' ⟨rfl, rfl⟩
    exact ⟨rfl, hk.set o _, Rg.Only.setCell w b o _⟩
  · refine (check_used b o w (by rw [hk.cell]; exact h0)).mono ?_
    rintro e w' ⟨rfl, rfl⟩
    refine ⟨rfl, ?_, Rg.Only.refl _ _⟩
    have hlt : o < C.length := by omega
    rw [List.getElem?_eq_getElem hlt] at h0
    have e := Option.some.inj h0
    rw [← e, List.set_getElem_self]
    exact hk
/-- where the bytes lie behind an append: where they lay, or in a new block -/
theorem block_or {P : Program} (w : World) (base : Nat) (t u ty e : TypeId) (i : TypeInfo) (ht : P.underlying t = some (.slice e)) (hu : P.underlying u = some .string) (hi : P.info? e = some i) (hz : i.zero = some (.int .u8 0)) (hsize : i.size = 1) (hby : i.bytes = 1)
    (v : Value) (n : Nat) (xs : List Value) (hown : w.ownsRowF base e 1 v n xs) (s : ByteArray) (h63 : n + s.size ≤ maxLen) (hbytes : n + s.size ≤ 140737488355328) (hbase : base ≤ w.heap.size) :
    ∃ v' w', (Builtin.append_ #[t, u] ty #[v, .string s]).run P w = .ok v' w' ∧ w'.ownsRowF base e 1 v' (n + s.size) (xs ++ Lib.strCells s) ∧ w.grownBy w' v.ownBlock ∧ (v' = .slice none 0 0 ↔ v = .slice none 0 0 ∧ s.size = 0) ∧ (∀ g, v'.ownBlock = some g → v.ownBlock = some g ∨ w.heap.size ≤ g) := by
  obtain ⟨v', w', h1, h2, h3, h4⟩ := Lib.run_append_own_stringF (P := P) w base t u ty e i ht hu hi hz hsize hby v n xs hown s h63 hbytes hbase
  refine ⟨v', w', h1, h2, h3, h4, ?_⟩
  rcases hown.2 with ⟨rfl, rfl⟩ | ⟨g, cap, cur, fz, rfl, hbg, hg, hfz, hnc, hcm, hcs, htake⟩
  · obtain ⟨v2, w2, g1, g2, _⟩ := Lib.run_append_own_stringF (P := P) w w.heap.size t u ty e i ht hu hi hz hsize hby (.slice none 0 0) 0 xs ⟨hown.1, .inl ⟨rfl, rfl⟩⟩ s h63 hbytes (Nat.le_refl _)
    rw [h1] at g1
    cases g1
    exact fun g hg => .inr (g2.lt g hg).1
  · by_cases hroom : n + s.size ≤ cap
    · have hcs' : cur.size = cap := by simpa using hcs
      have hr := Lib.run_append_room_stringF (P := P) w t u ty e i ht hu hi hsize g n cap cur fz hg (by simpa using hfz) s hroom (by omega)
      rw [h1] at hr
      cases hr
      exact fun k hk => .inl hk
    · have hxl : xs.length = n := by simpa using hown.1
      have hr := Lib.run_append_grow_string (P := P) w t u ty e i (.int .u8 0) ht hu hi hz ⟨g, 0, none⟩ n cap xs (by rw [hsize]; simpa using hxl) (hown.cells (g := g) rfl) s (by omega) (by unfold maxLen at h63; omega) (by rw [hby]; exact growslice_fits (by omega) (by unfold maxLen at h63; omega))
      rw [h1] at hr
      cases hr
      intro k hk
      simp [Value.ownBlock] at hk
      exact .inr (by omega)
theorem wpList_append_str {P : Program} {w : World} {ops : Array Oper} {rest : List Oper} {o : Oper} {a : Act} {Q : Exit → Act → World → Prop} (hw : Region.wanted o (yielded ops a.tmps) = true) (s x : Operand) (t u : TypeId)
    (ho : o.op = .call { callee := .builtin .append, args := #[s, x], argTypes := #[t, u] }) (v y : Value) (hs : a.eval s = v) (hx : a.eval x = y) (v' : Value) (w' : World)
    (hrun : (Builtin.append_ #[t, u] o.type #[v, y]).run P w = .ok v' w') (h : wpList P ops Q rest (a.put o.dst v') w') : wpList P ops Q (o :: rest) a w := by
  refine wpList_step fun K hK => ?_
  rw [if_pos hw]
  unfold Oper.wp
  simp [execOp, ho, resolve, invoke, builtin, hs, hx, hrun, Result.andThen]
  exact hK _ _ h
/-- what WriteString leaves -/
structure Wrote (base b o : Nat) (C : List Value) (v : Value) (S : List UInt8) (s : ByteArray) (w w' : World) (v' : Value) : Prop where
  bk : Rg.Bk b ((C.set o (.pointer (some ⟨b, o, none⟩))).set (o + 1) v') 81 w'
  bat : BAt base w' v' (S ++ s.data.toList)
  bel : Below base w w'
  size : w.heap.size ≤ w'.heap.size
  blk : ∀ k, k < w.heap.size → k ≠ b → v.ownBlock ≠ some k → w'.heap[k]? = w.heap[k]?
  own : ∀ g, v'.ownBlock = some g → v.ownBlock = some g ∨ w.heap.size ≤ g
theorem join (S : List UInt8) (s : ByteArray) : Lib.byteCells S ++ Lib.strCells s = Lib.byteCells (S ++ s.data.toList) := by simp [Lib.byteCells, Lib.strCells]
set_option maxHeartbeats 2000000 in
set_option maxRecDepth 100000 in
theorem write_go (base b o o1 : Nat) (C : List Value) (v : Value) (S : List UInt8) (s : ByteArray) (w : World) (ho1 : o + 1 = o1) (hB : base ≤ b) (hsv : ∃ a n c, v = .slice a n c)
    (HC : Hid (Calls Tryz.prog 128 #[.pointer (some ⟨b, o, none⟩)] w fun e w' => e = .returned (.tuple #[]) ∧ Rg.Bk b (C.set o (.pointer (some ⟨b, o, none⟩))) 81 w' ∧ Rg.Only b w w'))
    (hc1 : (C.set o (.pointer (some ⟨b, o, none⟩)))[o1]? = some v) (hbt : BAt base w v S) (hlen : S.length + s.size ≤ 140737488355328) (hk0 : Rg.Bk b C 81 w) :
    Calls Tryz.prog 101 #[.pointer (some ⟨b, o, none⟩), .string s] w fun e w' => e = .returned (.tuple #[.int .i64 s.size, .nilIface]) ∧ ∃ v', Wrote base b o C v S s w w' v' := by
  obtain ⟨i0, hi, hz0, hz1, hz2⟩ := info_parts infoByte
  have hlt0 := hk0.lt
  have hne := hbt.ne hk0 (by decide)
  clear hk0
  go_enter Tryz.func101, Tryz.ntmps101
  go_upto_region 2 with (go_at_call 128; refine HC.out.mono ?_; rintro e w1 ⟨rfl, hk1, ho⟩)
  have c1 : w1.cell? ⟨b, o1, none⟩ = some v := by rw [hk1.cell]; exact hc1
  have c2 : w1.cell? ⟨b, o + 1, none⟩ = some v := by rw [ho1]; exact c1
  have hbt1 : BAt base w1 v S := hbt.kept fun g hg => ho.block g (fun e => hne (by rw [hg, e]))
  obtain ⟨v', w2, r1, r2, r3, r4, r5⟩ := block_or (P := Tryz.prog) w1 base 65 9 65 5 i0 Tryz.underlying65 Tryz.underlying9 hi hz0 hz1 hz2 v S.length (Lib.byteCells S) hbt1.own s (by unfold maxLen; omega) hlen (by rw [ho.size]; omega)
  have hk2 : Rg.Bk b (C.set o (.pointer (some ⟨b, o, none⟩))) 81 w2 := hk1.same (r3.block b (by rw [ho.size]; exact hlt0) (fun e => hne e.symm))
  have f1 : w2.frozen? ⟨b, o1, none⟩ = false := hk2.thaw o1
  have f2 : w2.frozen? ⟨b, o + 1, none⟩ = false := by rw [ho1]; exact f1
  have d1 : w2.cell? ⟨b, o1, none⟩ = some v := by rw [hk2.cell]; exact hc1
  have d2 : w2.cell? ⟨b, o + 1, none⟩ = some v := by rw [ho1]; exact d1
  obtain ⟨ao, n', cap, rfl⟩ : ∃ ao n' cap, v' = .slice ao n' cap := by
    rcases r2.2 with ⟨hv, _⟩ | ⟨g, cap, cur, fz, hv, _⟩
    · exact ⟨_, _, _, hv⟩
    · exact ⟨_, _, _, hv⟩
  obtain ⟨va, vn, vc, rfl⟩ := hsv
  have hfin : ∃ v', Wrote base b o C (.slice va vn vc) S s w (w2.setCell ⟨b, o + 1, none⟩ (.slice ao n' cap)) v' := by
    have hbt2 : BAt base w2 (.slice ao n' cap) (S ++ s.data.toList) := by
      refine ⟨?_, ?_⟩
      · rw [List.length_append, show s.data.toList.length = s.size from rfl, ← join]; exact r2
      · intro e
        have he := List.append_eq_nil_iff.1 e
        refine r4.2 ⟨hbt.nil he.1, ?_⟩
        show s.data.size = 0
        rw [← Array.length_toList, he.2]; rfl
    have hs : Below base w w2 := (ho.bel hB).trans ⟨r3.os, r3.tape, r3.output, r3.size, fun k hk => r3.block k (by rw [ho.size]; omega) (fun e => by have := (hbt1.own.lt k e.symm).1; omega)⟩
    refine ⟨.slice ao n' cap, hk2.set (o + 1) _, hbt2.set hk2 (by decide) _, hs.setCell (p := ⟨b, o + 1, none⟩) hB _, ?_, ?_, ?_⟩
    · rw [← ho.size]; simpa [World.setCell] using r3.size
    · intro k hk hkb hkv
      rw [Below.heap_setCell _ _ _ _ hkb, r3.block k (by rw [ho.size]; exact hk) (fun e => hkv e.symm), ho.block k hkb]
    · intro g hg
      have := r5 g hg
      rw [ho.size] at this
      exact this
  rw [ho1] at hfin
  clear r2 r3 r4 r5 hbt hbt1 hk1 hk2 hc1 hz0 hz1 hz2 hi hne ho
  go_wp2_with (at_builtin; refine wpList_append_str rfl _ _ _ _ rfl _ _ rfl rfl _ _ r1 ?_)
  go_ret2
  exact ⟨rfl, hfin⟩
theorem slice_of {base : Nat} {W : World} {v : Value} {S : List UInt8} (h : BAt base W v S) : ∃ a n c, v = .slice a n c := by
  rcases h.own.2 with ⟨hv, _⟩ | ⟨g, cap, cur, fz, hv, _⟩
  · exact ⟨_, _, _, hv⟩
  · exact ⟨_, _, _, hv⟩
theorem write (base b o : Nat) (C : List Value) (v : Value) (S : List UInt8) (s : ByteArray) (w : World) (hB : base ≤ b) (hk : Rg.Bk b C 81 w) (hC : C.length = 21) (ho : o = 18) (h0 : C[o]? = some (.pointer none) ∨ C[o]? = some (.pointer (some ⟨b, o, none⟩))) (h1 : C[o + 1]? = some v) (hbt : BAt base w v S) (hlen : S.length + s.size ≤ 140737488355328) :
    Calls Tryz.prog 101 #[.pointer (some ⟨b, o, none⟩), .string s] w fun e w' => e = .returned (.tuple #[.int .i64 s.size, .nilIface]) ∧ ∃ v', Wrote base b o C v S s w w' v' :=
  write_go base b o (o + 1) C v S s w rfl hB (slice_of hbt) (check b o C w hk hC ho h0) (by rw [List.getElem?_set_ne (by omega)]; exact h1) hbt hlen hk
theorem len_pos {l : List UInt8} {cap : Nat} (h0 : l ≠ []) (hc : l.length ≤ cap) : cap ≠ 0 := by
  have : l.length ≠ 0 := by simpa using h0
  omega
/-- what String leaves -/
structure Read (base : Nat) (v : Value) (w w' : World) : Prop where
  bel : Below base w w'
  blk : ∀ k, k < w.heap.size → v.ownBlock ≠ some k → w'.heap[k]? = w.heap[k]?
set_option maxHeartbeats 1000000 in
set_option maxRecDepth 100000 in
theorem str_some (base b o g cap : Nat) (l : List UInt8) (w : World) (h0 : l ≠ []) (h1d : w.drew.cell? ⟨b, o + 1, none⟩ = some (.slice (some ⟨g, 0, none⟩) l.length cap)) (hbg : base ≤ g) (hcap : l.length ≤ cap)
    (hUS : (Builtin.unsafeString_ #[91, 3] 9 #[.pointer (some ⟨g, 0, none⟩), .int .i64 l.length]).run Tryz.prog w.drew = .ok (.string ⟨l.toArray⟩) (w.drew.freeze ⟨g, 0, none⟩ l.length)) :
    Calls Tryz.prog 44 #[.pointer (some ⟨b, o, none⟩)] w fun e w' => e = .returned (.string ⟨l.toArray⟩) ∧ Read base (.slice (some ⟨g, 0, none⟩) l.length cap) w w' := by
  have hSD : (Builtin.unsafeSliceData_ #[65] 91 #[.slice (some ⟨g, 0, none⟩) l.length cap]).run Tryz.prog w.drew = .ok (.pointer (some ⟨g, 0, none⟩)) w.drew :=
    Lib.run_unsafeSliceData_row _ _ _ _ _ _ (len_pos h0 hcap)
  have mixed : Tryz.prog.follows .mixedOrders = true := by kernel_rfl
  have hfin : Read base (.slice (some ⟨g, 0, none⟩) l.length cap) w (w.drew.freeze ⟨g, 0, none⟩ l.length) := by
    refine ⟨Lib.below_freeze (Below.drew (Below.refl base w)) (p := ⟨g, 0, none⟩) hbg _, fun k hk hne => ?_⟩
    unfold World.freeze
    split
    · rfl
    · simp only [Array.getElem?_modify]
      rw [if_neg (fun e => hne (by simp [Value.ownBlock, e]))]
      rfl
  go_enter Tryz.func44, Tryz.ntmps44
  go_wp2
  go_region_o
  all_goals (go_wp2; go_ret; exact ⟨rfl, hfin⟩)
set_option maxHeartbeats 1000000 in
set_option maxRecDepth 100000 in
theorem str_none (base b o : Nat) (w : World) (h1d : w.drew.cell? ⟨b, o + 1, none⟩ = some (.slice none 0 0)) :
    Calls Tryz.prog 44 #[.pointer (some ⟨b, o, none⟩)] w fun e w' => e = .returned (.string ⟨#[]⟩) ∧ Read base (.slice none 0 0) w w' := by
  have hSD : (Builtin.unsafeSliceData_ #[65] 91 #[.slice none 0 0]).run Tryz.prog w.drew = .ok (.pointer none) w.drew := rfl
  have hUS : ∀ W, (Builtin.unsafeString_ #[91, 3] 9 #[.pointer none, .int .i64 0]).run Tryz.prog W = .ok (.string .empty) W := fun W => Lib.run_unsafeString_none W _ _ _ none
  have mixed : Tryz.prog.follows .mixedOrders = true := by kernel_rfl
  go_enter Tryz.func44, Tryz.ntmps44
  go_wp2
  go_region_o
  all_goals (go_wp2; go_ret; exact ⟨rfl, ⟨Below.drew (Below.refl base w), fun _ _ _ => rfl⟩⟩)
theorem str (base b o : Nat) (v : Value) (S : List UInt8) (w : World) (h1 : w.cell? ⟨b, o + 1, none⟩ = some v) (hbt : BAt base w v S) :
    Calls Tryz.prog 44 #[.pointer (some ⟨b, o, none⟩)] w fun e w' => e = .returned (.string ⟨S.toArray⟩) ∧ Read base v w w' := by
  by_cases h0 : S = []
  · subst h0
    obtain rfl := hbt.nil rfl
    exact str_none base b o w h1
  · have hown := hbt.own
    have hl0 : S.length ≠ 0 := by simpa using h0
    obtain ⟨g, cap, cur, fz, rfl, hbg, hg, hfz, hnc, hcm, hcs, htake⟩ : ∃ g cap cur fz, v = .slice (some ⟨g, 0, none⟩) S.length cap ∧ base ≤ g ∧ w.heap[g]? = some (.cells cur 5 fz) ∧ fz.2 ≤ S.length * 1 ∧ S.length ≤ cap ∧ cap ≤ maxLen ∧ cur.size = cap * 1 ∧ cur.toList.take (S.length * 1) = Lib.byteCells S := by
      rcases hown.2 with ⟨_, hz⟩ | ⟨g, cap, cur, fz, hv, r⟩
      · exact absurd hz hl0
      · exact ⟨g, cap, cur, fz, hv, r⟩
    refine str_some base b o g cap S w h0 h1 hbg hnc ?_
    refine Lib.run_unsafeString_row w.drew 91 3 9 5 Tryz.underlying91 cellsByte g cur.size (by have hg' : w.drew.heap[g]? = some (.cells cur 5 fz) := hg; simp [World.shape?, hg']) S h0 (by omega) (by unfold maxLen at hcm; omega) ?_
    intro j x hx
    exact hown.cells (g := g) rfl j (.int .u8 x.toNat) (by simp [Lib.byteCells, hx])
end Bi
/-- an end says something -/
theorem IAt.sayP {Kp : Nat → Prop} {W : World} {eb : Nat} {d : Gp.Dr} {p : Pl} {q : Qv} {S : List UInt8} {C : List Gp.Pc} (h : IAt Kp W eb d p q S C) (s : ByteArray) (hlen : S.length + s.size ≤ 140737488355328) :
    Calls Tryz.prog 101 #[.pointer (some ⟨eb, 18, none⟩), .string s] W fun e w' => e = .returned (.tuple #[.int .i64 s.size, .nilIface]) ∧ (∃ s' sb', IAt Kp w' eb d p ⟨s', sb', q.cv, q.ag⟩ (S ++ s.data.toList) C) ∧ Fr eb eb W w' := by
  refine (Bi.write eb eb 18 (IC d p q) q.sb S s W (Nat.le_refl _) h.bk rfl rfl ?_ rfl h.said hlen).mono ?_
  · rcases h.sa with e | e
    · exact .inl (by show some q.s = _; rw [e])
    · exact .inr (by show some q.s = _; rw [e])
  · rintro e w' ⟨rfl, v', hw⟩
    have hvs := h.vs
    have hkk : ∀ k, k < W.heap.size → k ≠ eb → (∀ v ∈ ivs d p q, v.ownBlock ≠ some k) → w'.heap[k]? = W.heap[k]? := fun k h1 h2 h3 => hw.blk k h1 h2 (h3 _ (by simp [ivs]))
    have hvv : ∀ x ∈ ivs d p ⟨.pointer (some ⟨eb, 18, none⟩), v', q.cv, q.ag⟩, ∀ g, x.ownBlock = some g → (∃ v ∈ ivs d p q, v.ownBlock = some g) ∨ W.heap.size ≤ g := by
      intro x hm g hg
      simp only [ivs, List.mem_cons, List.not_mem_nil, or_false] at hm
      rcases hm with rfl | rfl | rfl | rfl
      · rcases hw.own g hg with e | e
        · exact .inl ⟨_, by simp [ivs], e⟩
        · exact .inr e
      · exact .inl ⟨q.cv, by simp [ivs], hg⟩
      · exact .inl ⟨_, by simp [ivs], hg⟩
      · exact .inl ⟨tok q.ag, by simp [ivs], hg⟩
    have hoth : ∀ g cur T fz, W.heap[g]? = some (.cells cur T fz) → T ≠ 5 → g ≠ eb → w'.heap[g]? = W.heap[g]? := fun g cur T fz hg hT hne => hw.blk g (Array.getElem?_eq_some_iff.1 hg).1 hne (fun e => by
      obtain ⟨c, fz2, hc⟩ := Lib.ownsRowF_kind h.said.own g e
      rw [hg] at hc
      cases hc
      exact hT rfl)
    have hrow : ∀ (T : TypeId) (v : Value) (n : Nat) (xs : List Value), W.ownsRow eb T 2 v n xs → T ≠ 5 → T ≠ 81 → w'.ownsRow eb T 2 v n xs := fun T v n xs ho hT hT2 => own_kept ho fun g hg => by
      rcases ho.2 with ⟨rfl, _⟩ | ⟨g', cap, cur, rfl, _, hgg, _⟩
      · simp [Value.ownBlock] at hg
      · simp [Value.ownBlock] at hg
        subst hg
        refine hoth g' cur T _ hgg hT (fun e => ?_)
        have hb := h.bk
        unfold Rg.Bk at hb
        rw [e, hb] at hgg
        cases hgg
        exact hT2 rfl
    refine ⟨rfl, ⟨.pointer (some ⟨eb, 18, none⟩), v', hw.bk, h.win.kept hw.bel hkk hvv, h.wcap, ?_, h.acap, h.queue.kept hw.bel hkk hvv, hrow _ _ _ _ h.took (by decide) (by decide), .inr rfl, hw.bat, hrow _ _ _ _ h.came (by decide) (by decide)⟩, hw.bel, fun k ob hk hb ho => ?_⟩
    rotate_left
    · rw [hw.blk k (Array.getElem?_eq_some_iff.1 hk).1 (fun e => hb (by rw [e])) (fun e => ?_)]
      · exact hk
      · obtain ⟨c, fz, hc⟩ := Lib.ownsRowF_kind h.said.own k e
        rw [hk] at hc
        exact ho c fz (Option.some.inj hc)
    rcases h.ahead with ⟨e1, h1⟩ | ⟨g, e1, h1⟩
    · exact .inl ⟨e1, h1.kept hw.bel hkk hvv⟩
    · obtain ⟨x1, o, cur, x2, x3, x4⟩ := h1
      exact .inr ⟨g, e1, x1, o, cur, x2, by rw [hoth g cur _ _ x3 (by decide) (Nat.ne_of_gt x1)]; exact x3, x4⟩
end Go.Proofs.YtomldoijcclhhaaGreat

namespace Go.Proofs.YtomldoijcclhhaaGreat
open Go.RowKit
theorem isKind_any (k : Int) (w : World) : Calls Tryz.prog 161 #[.int .i64 k] w fun e w' => e = .returned (.bool (If.kind k)) ∧ w' = w := by
  cases hk : If.kind k with
  | true =>
    rcases If.kind_cases hk with rfl | rfl | rfl | rfl | rfl
    all_goals
      clear hk
      go_enter Tryz.func161, Tryz.ntmps161
      go_wp2
      go_ret
      exact ⟨rfl, rfl⟩
  | false =>
    obtain ⟨h0, h1, h2, h3, h5⟩ := If.kind_no hk
    have e0 : (k == 0) = false := beq_eq_false_iff_ne.2 h0
    have e1 : (k == 1) = false := beq_eq_false_iff_ne.2 h1
    have e2 : (k == 2) = false := beq_eq_false_iff_ne.2 h2
    have e3 : (k == 3) = false := beq_eq_false_iff_ne.2 h3
    have e5 : (k == 5) = false := beq_eq_false_iff_ne.2 h5
    clear hk h0 h1 h2 h3 h5
    go_enter Tryz.func161, Tryz.ntmps161
    go_wp2
    go_ret
    exact ⟨rfl, rfl⟩
theorem rkind_any (k : Int) (w : World) : Calls Tryz.prog 139 #[.int .i64 k] w fun e w' => e = .returned (.bool (If.kind k)) ∧ w' = w := by
  cases hk : If.kind k with
  | true =>
    rcases If.kind_cases hk with rfl | rfl | rfl | rfl | rfl
    all_goals
      clear hk
      go_enter Tryz.func139, Tryz.ntmps139
      go_wp2
      go_ret
      exact ⟨rfl, rfl⟩
  | false =>
    obtain ⟨h0, h1, h2, h3, h5⟩ := If.kind_no hk
    have e0 : (k == 0) = false := beq_eq_false_iff_ne.2 h0
    have e1 : (k == 1) = false := beq_eq_false_iff_ne.2 h1
    have e2 : (k == 2) = false := beq_eq_false_iff_ne.2 h2
    have e3 : (k == 3) = false := beq_eq_false_iff_ne.2 h3
    have e5 : (k == 5) = false := beq_eq_false_iff_ne.2 h5
    clear hk h0 h1 h2 h3 h5
    go_enter Tryz.func139, Tryz.ntmps139
    go_wp2
    go_ret
    exact ⟨rfl, rfl⟩
theorem isUpTo_any (n m : Int) (w : World) :
    Calls Tryz.prog 172 #[.int .i64 n, .int .i64 m] w fun e w' => e = .returned (.bool (decide (0 ≤ n ∧ n ≤ m))) ∧ w' = w := by
  by_cases h1 : 0 ≤ n
  · by_cases h2 : n ≤ m
    · have hr : Hid (decide (0 ≤ n ∧ n ≤ m) = true) := decide_eq_true ⟨h1, h2⟩
      go_enter Tryz.func172, Tryz.ntmps172
      go_wp2
      go_ret
      exact ⟨ret_bool (by first | exact hr.out.symm | rfl | (rw [hr.out]; simp; omega) | (simp; omega)), rfl⟩
    · have hr : Hid (decide (0 ≤ n ∧ n ≤ m) = false) := decide_eq_false fun h => h2 h.2
      go_enter Tryz.func172, Tryz.ntmps172
      go_wp2
      go_ret
      exact ⟨ret_bool (by first | exact hr.out.symm | rfl | (rw [hr.out]; simp; omega) | (simp; omega)), rfl⟩
  · have hr : Hid (decide (0 ≤ n ∧ n ≤ m) = false) := decide_eq_false fun h => h1 h.1
    go_enter Tryz.func172, Tryz.ntmps172
    go_wp2
    go_ret
    exact ⟨ret_bool (by first | exact hr.out.symm | rfl | (rw [hr.out]; simp; omega) | (simp; omega)), rfl⟩
end Go.Proofs.YtomldoijcclhhaaGreat

namespace Go.Proofs.YtomldoijcclhhaaGreat
open Go.RowKit
namespace If
theorem len_eq (s : ByteArray) : s.data.toList.length = s.size := by rw [Array.length_toList]; rfl
theorem app_size (a b : ByteArray) : (a ++ b).size = a.size + b.size := by simp
theorem size_of (l : List UInt8) : (⟨l.toArray⟩ : ByteArray).size = l.length := by
  show l.toArray.size = _; simp
theorem ba_app (a b : List UInt8) : (⟨a.toArray⟩ : ByteArray) ++ ⟨b.toArray⟩ = ⟨(a ++ b).toArray⟩ := by
  apply ByteArray.ext; simp
theorem ba_toList (s : ByteArray) : (⟨s.data.toList.toArray⟩ : ByteArray) = s := rfl
theorem ne_nil {s : ByteArray} (h : 0 < s.size) : (s.toList == []) = false := by
  apply beq_eq_false_iff_ne.2
  intro e
  rw [tl_eq] at e
  have := len_eq s
  rw [e] at this
  simp at this
  omega
theorem beq0 {a b : Int} (h : ¬ a = b) : (a == b) = false := beq_eq_false_iff_ne.2 h
theorem below1 (w : World) (o : Obj) : Below w.heap.size w (w.alloc o) := (Below.refl _ w).alloc (Nat.le_refl _) _
theorem more {w W : World} (h : Below w.heap.size w W) (o : Obj) : Below w.heap.size w (W.alloc o) := h.alloc h.size o
theorem heap_new (W : World) (o : Obj) : (W.alloc o).heap[W.heap.size]? = some o := (MapKept.heap_alloc W o).1
theorem alloc_size (W : World) (o : Obj) : (W.alloc o).heap.size = W.heap.size + 1 := by simp
/-- Numbers below 256 as cells, from a place on, turned to a text. -/
theorem conv_at {W : World} {b p : Nat} {l : List Nat} {cs : Array Value} {T cap : Nat} {fr : Nat × Nat} (hb : W.heap[b]? = some (.cells cs T fr)) (h : ∀ n ∈ l, n < 256) (hc : ∀ j (hj : j < l.length), cs[p + j]? = some (.int .u8 ((l[j] : Nat) : Int))) :
    (convert 65 9 (.slice (some ⟨b, p, none⟩) l.length cap)).run Tryz.prog W = .ok (.string ⟨(l.map UInt8.ofNat).toArray⟩) W := by
  have := run_convert_bytes_back (P := Tryz.prog) W 65 9 5 ⟨b, p, none⟩ cap (l.map UInt8.ofNat) Tryz.underlying65 Tryz.underlying5 Tryz.underlying9 (fun j hj => by
    have e : (⟨b, p, none⟩ : Addr).add j = ⟨b, p + j, none⟩ := by cases j <;> simp [Addr.add]
    have hj' : j < l.length := by simpa using hj
    rw [e, Lib.cell_of_heap hb (p + j), hc j hj', List.getElem_map, ofNat_toNat (h _ (List.getElem_mem hj'))])
  rw [List.length_map] at this
  exact this
theorem or_add (a k c : Nat) (hc : c < 2 ^ k) : a * 2 ^ k ||| c = a * 2 ^ k + c := by
  have := Nat.two_pow_add_eq_or_of_lt (i := k) (b := c) hc a
  rw [Nat.mul_comm a (2 ^ k)]; exact this.symm
end If
theorem ikeepF {f : FuncId} {args : Array Value} {r : Value} {C : List Value} {ty : TypeId} (w : World) (H : ∀ W, Calls Tryz.prog f args W fun e w' => e = .returned r ∧ Below W.heap.size W w') :
    Hid (∀ W, Below w.heap.size w W → Rg.Bk w.heap.size C ty W → Calls Tryz.prog f args W fun e w' => e = .returned r ∧ Below w.heap.size w w' ∧ Rg.Bk w.heap.size C ty w') :=
  fun W hW hk => (H W).mono fun _ _ ⟨a, b⟩ => ⟨a, hW.trans (b.mono hW.size), hk.below b hk.lt⟩
end Go.Proofs.YtomldoijcclhhaaGreat
