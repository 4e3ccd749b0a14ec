/-
  Walks of layer 16: a strings.Builder in a block of its own: WriteString, String, Reset. Walks of layer 16: Begin. Mathematics of layer 16: neighbours of one channel are one piece, reckoned from the front.
-/
import Derived.Test.YtomldoijcclhhaaGreatSkAY
import Derived.Test.YtomldoijcclhhaaGreatSkAR
namespace Go.Proofs.YtomldoijcclhhaaGreat
open Go.RowKit
namespace Bo
theorem lies0 : liesAt Tryz.prog Tryz.prog.depth 67 (2 / Tryz.prog.cellsOf 67) 0 67 1 = true := by kernel_rfl
set_option maxHeartbeats 1000000 in
set_option maxRecDepth 100000 in
theorem check_fresh (b o : Nat) (w : World) (h0 : w.cell? ⟨b, o, none⟩ = some (.pointer none)) (hsh : w.shape? b = some (67, 2)) (ho : o < 2) (hl : liesAt Tryz.prog Tryz.prog.depth 67 (2 / Tryz.prog.cellsOf 67) o 67 1 = true) (hfz : w.frozen? ⟨b, o, none⟩ = false) :
    Calls Tryz.prog 128 #[.pointer (some ⟨b, o, none⟩)] w fun e w' => e = .returned (.tuple #[]) ∧ w' = w.setCell ⟨b, o, none⟩ (.pointer (some ⟨b, o, none⟩)) := by
  obtain ⟨j, hj, hjs⟩ := Option.map_eq_some_iff.1 Bi.sizeB
  go_enter Tryz.func128, Tryz.ntmps128
  go_wp2
  rw [Lib.run_to_unsafe w ⟨b, o, none⟩ Tryz.underlying64 Tryz.underlying144 hj (by rw [hjs]; decide) hsh ho]
  simp only [Result.andThen]
  rw [Oper.upon_value]
  go_wp2
  rw [run_callFunc_extern Tryz.func171 (by kernel_rfl) (by kernel_rfl) (by kernel_rfl) (e := Extern.AbiNoEscape.same) (by kernel_rfl)]
  rw [Lib.run_noEscape]
  simp only [Result.andThen]
  rw [Oper.upon_value]
  go_wp2
  rw [Lib.run_from_unsafe w ⟨b, o, none⟩ Tryz.underlying144 Tryz.underlying64 hj hsh hl]
  simp only [Result.andThen]
  rw [Oper.upon_value]
  go_wp2
  go_end0
  exact ⟨rfl, rfl⟩

theorem check (b o : Nat) (C : List Value) (w : World) (hk : Rg.Bk b C 67 w) (hC : C.length = 2) (ho : o = 0) (h0 : C[o]? = some (.pointer none) ∨ C[o]? = some (.pointer (some ⟨b, o, none⟩))) :
    Calls Tryz.prog 128 #[.pointer (some ⟨b, o, none⟩)] w fun e w' => e = .returned (.tuple #[]) ∧ Rg.Bk b (C.set o (.pointer (some ⟨b, o, none⟩))) 67 w' ∧ Rg.Only b w w' := by
  rcases h0 with h0 | h0
  · refine (check_fresh b o w (by rw [hk.cell]; exact h0) (by unfold Rg.Bk at hk; simp [World.shape?, hk, hC]) (by omega) (by subst ho; exact lies0) (hk.thaw o)).mono ?_
    rintro e w' ⟨rfl, rfl⟩
    exact ⟨rfl, hk.set o _, Rg.Only.setCell w b o _⟩
  · refine (Bi.check_used b o w (by rw [hk.cell]; exact h0)).mono ?_
    rintro e w' ⟨rfl, rfl⟩
    refine ⟨rfl, ?_, Rg.Only.refl _ _⟩
    have hlt : o < C.length := by omega
    rw [List.getElem?_eq_getElem hlt] at h0
    have e := Option.some.inj h0
    rw [← e, List.set_getElem_self]
    exact hk
/-- where the bytes lie behind an append: where they lay, or in a new block -/
theorem Bi.block_or {P : Program} (w : World) (base : Nat) (t u ty e : TypeId) (i : TypeInfo) (ht : P.underlying t = some (.slice e)) (hu : P.underlying u = some .string) (hi : P.info? e = some i) (hz : i.zero = some (.int .u8 0)) (hsize : i.size = 1) (hby : i.bytes = 1)
    (v : Value) (n : Nat) (xs : List Value) (hown : w.ownsRowF base e 1 v n xs) (s : ByteArray) (h63 : n + s.size ≤ maxLen) (hbytes : n + s.size ≤ 140737488355328) (hbase : base ≤ w.heap.size) :
    ∃ v' w', (Builtin.append_ #[t, u] ty #[v, .string s]).run P w = .ok v' w' ∧ w'.ownsRowF base e 1 v' (n + s.size) (xs ++ Lib.strCells s) ∧ w.grownBy w' v.ownBlock ∧ (v' = .slice none 0 0 ↔ v = .slice none 0 0 ∧ s.size = 0) ∧ (∀ g, v'.ownBlock = some g → v.ownBlock = some g ∨ w.heap.size ≤ g) := by
  obtain ⟨v', w', h1, h2, h3, h4⟩ := Lib.run_append_own_stringF (P := P) w base t u ty e i ht hu hi hz hsize hby v n xs hown s h63 hbytes hbase
  refine ⟨v', w', h1, h2, h3, h4, ?_⟩
  rcases hown.2 with ⟨rfl, rfl⟩ | ⟨g, cap, cur, fz, rfl, hbg, hg, hfz, hnc, hcm, hcs, htake⟩
  · obtain ⟨v2, w2, g1, g2, _⟩ := Lib.run_append_own_stringF (P := P) w w.heap.size t u ty e i ht hu hi hz hsize hby (.slice none 0 0) 0 xs ⟨hown.1, .inl ⟨rfl, rfl⟩⟩ s h63 hbytes (Nat.le_refl _)
    rw [h1] at g1
    cases g1
    exact fun g hg => .inr (g2.lt g hg).1
  · by_cases hroom : n + s.size ≤ cap
    · have hcs' : cur.size = cap := by simpa using hcs
      have hr := Lib.run_append_room_stringF (P := P) w t u ty e i ht hu hi hsize g n cap cur fz hg (by simpa using hfz) s hroom (by omega)
      rw [h1] at hr
      cases hr
      exact fun k hk => .inl hk
    · have hxl : xs.length = n := by simpa using hown.1
      have hr := Lib.run_append_grow_string (P := P) w t u ty e i (.int .u8 0) ht hu hi hz ⟨g, 0, none⟩ n cap xs (by rw [hsize]; simpa using hxl) (hown.cells (g := g) rfl) s (by omega) (by unfold maxLen at h63; omega) (by rw [hby]; exact growslice_fits (by omega) (by unfold maxLen at h63; omega))
      rw [h1] at hr
      cases hr
      intro k hk
      simp [Value.ownBlock] at hk
      exact .inr (by omega)
theorem Bi.wpList_append_str {P : Program} {w : World} {ops : Array Oper} {rest : List Oper} {o : Oper} {a : Act} {Q : Exit → Act → World → Prop} (hw : Region.wanted o (yielded ops a.tmps) = true) (s x : Operand) (t u : TypeId)
    (ho : o.op = .call { callee := .builtin .append, args := #[s, x], argTypes := #[t, u] }) (v y : Value) (hs : a.eval s = v) (hx : a.eval x = y) (v' : Value) (w' : World)
    (hrun : (Builtin.append_ #[t, u] o.type #[v, y]).run P w = .ok v' w') (h : wpList P ops Q rest (a.put o.dst v') w') : wpList P ops Q (o :: rest) a w := by
  refine wpList_step fun K hK => ?_
  rw [if_pos hw]
  unfold Oper.wp
  simp [execOp, ho, resolve, invoke, builtin, hs, hx, hrun, Result.andThen]
  exact hK _ _ h
/-- what WriteString leaves -/
structure Wrote (base b o : Nat) (C : List Value) (v : Value) (S : List UInt8) (s : ByteArray) (w w' : World) (v' : Value) : Prop where
  bk : Rg.Bk b ((C.set o (.pointer (some ⟨b, o, none⟩))).set (o + 1) v') 67 w'
  bat : BAt base w' v' (S ++ s.data.toList)
  bel : Below base w w'
  size : w.heap.size ≤ w'.heap.size
  blk : ∀ k, k < w.heap.size → k ≠ b → v.ownBlock ≠ some k → w'.heap[k]? = w.heap[k]?
  own : ∀ g, v'.ownBlock = some g → v.ownBlock = some g ∨ w.heap.size ≤ g
set_option maxHeartbeats 2000000 in
set_option maxRecDepth 100000 in
theorem write_go (base b o o1 : Nat) (C : List Value) (v : Value) (S : List UInt8) (s : ByteArray) (w : World) (ho1 : o + 1 = o1) (hB : base ≤ b) (hsv : ∃ a n c, v = .slice a n c)
    (HC : Hid (Calls Tryz.prog 128 #[.pointer (some ⟨b, o, none⟩)] w fun e w' => e = .returned (.tuple #[]) ∧ Rg.Bk b (C.set o (.pointer (some ⟨b, o, none⟩))) 67 w' ∧ Rg.Only b w w'))
    (hc1 : (C.set o (.pointer (some ⟨b, o, none⟩)))[o1]? = some v) (hbt : BAt base w v S) (hlen : S.length + s.size ≤ 140737488355328) (hk0 : Rg.Bk b C 67 w) :
    Calls Tryz.prog 101 #[.pointer (some ⟨b, o, none⟩), .string s] w fun e w' => e = .returned (.tuple #[.int .i64 s.size, .nilIface]) ∧ ∃ v', Wrote base b o C v S s w w' v' := by
  obtain ⟨i0, hi, hz0, hz1, hz2⟩ := info_parts Bi.infoByte
  have hlt0 := hk0.lt
  have hne := hbt.ne hk0 (by decide)
  clear hk0
  go_enter Tryz.func101, Tryz.ntmps101
  go_upto_region 2 with (go_at_call 128; refine HC.out.mono ?_; rintro e w1 ⟨rfl, hk1, ho⟩)
  have c1 : w1.cell? ⟨b, o1, none⟩ = some v := by rw [hk1.cell]; exact hc1
  have c2 : w1.cell? ⟨b, o + 1, none⟩ = some v := by rw [ho1]; exact c1
  have hbt1 : BAt base w1 v S := hbt.kept fun g hg => ho.block g (fun e => hne (by rw [hg, e]))
  obtain ⟨v', w2, r1, r2, r3, r4, r5⟩ := Bi.block_or (P := Tryz.prog) w1 base 65 9 65 5 i0 Tryz.underlying65 Tryz.underlying9 hi hz0 hz1 hz2 v S.length (Lib.byteCells S) hbt1.own s (by unfold maxLen; omega) hlen (by rw [ho.size]; omega)
  have hk2 : Rg.Bk b (C.set o (.pointer (some ⟨b, o, none⟩))) 67 w2 := hk1.same (r3.block b (by rw [ho.size]; exact hlt0) (fun e => hne e.symm))
  have f1 : w2.frozen? ⟨b, o1, none⟩ = false := hk2.thaw o1
  have f2 : w2.frozen? ⟨b, o + 1, none⟩ = false := by rw [ho1]; exact f1
  have d1 : w2.cell? ⟨b, o1, none⟩ = some v := by rw [hk2.cell]; exact hc1
  have d2 : w2.cell? ⟨b, o + 1, none⟩ = some v := by rw [ho1]; exact d1
  obtain ⟨ao, n', cap, rfl⟩ : ∃ ao n' cap, v' = .slice ao n' cap := by
    rcases r2.2 with ⟨hv, _⟩ | ⟨g, cap, cur, fz, hv, _⟩
    · exact ⟨_, _, _, hv⟩
    · exact ⟨_, _, _, hv⟩
  obtain ⟨va, vn, vc, rfl⟩ := hsv
  have hfin : ∃ v', Wrote base b o C (.slice va vn vc) S s w (w2.setCell ⟨b, o + 1, none⟩ (.slice ao n' cap)) v' := by
    have hbt2 : BAt base w2 (.slice ao n' cap) (S ++ s.data.toList) := by
      refine ⟨?_, ?_⟩
      · rw [List.length_append, show s.data.toList.length = s.size from rfl, ← Bi.join]; exact r2
      · intro e
        have he := List.append_eq_nil_iff.1 e
        refine r4.2 ⟨hbt.nil he.1, ?_⟩
        show s.data.size = 0
        rw [← Array.length_toList, he.2]; rfl
    have hs : Below base w w2 := (ho.bel hB).trans ⟨r3.os, r3.tape, r3.output, r3.size, fun k hk => r3.block k (by rw [ho.size]; omega) (fun e => by have := (hbt1.own.lt k e.symm).1; omega)⟩
    refine ⟨.slice ao n' cap, hk2.set (o + 1) _, hbt2.set hk2 (by decide) _, hs.setCell (p := ⟨b, o + 1, none⟩) hB _, ?_, ?_, ?_⟩
    · rw [← ho.size]; simpa [World.setCell] using r3.size
    · intro k hk hkb hkv
      rw [Below.heap_setCell _ _ _ _ hkb, r3.block k (by rw [ho.size]; exact hk) (fun e => hkv e.symm), ho.block k hkb]
    · intro g hg
      have := r5 g hg
      rw [ho.size] at this
      exact this
  rw [ho1] at hfin
  clear r2 r3 r4 r5 hbt hbt1 hk1 hk2 hc1 hz0 hz1 hz2 hi hne ho
  go_wp2_with (at_builtin; refine Bi.wpList_append_str rfl _ _ _ _ rfl _ _ rfl rfl _ _ r1 ?_)
  go_ret2
  exact ⟨rfl, hfin⟩
theorem write (base b o : Nat) (C : List Value) (v : Value) (S : List UInt8) (s : ByteArray) (w : World) (hB : base ≤ b) (hk : Rg.Bk b C 67 w) (hC : C.length = 2) (ho : o = 0) (h0 : C[o]? = some (.pointer none) ∨ C[o]? = some (.pointer (some ⟨b, o, none⟩))) (h1 : C[o + 1]? = some v) (hbt : BAt base w v S) (hlen : S.length + s.size ≤ 140737488355328) :
    Calls Tryz.prog 101 #[.pointer (some ⟨b, o, none⟩), .string s] w fun e w' => e = .returned (.tuple #[.int .i64 s.size, .nilIface]) ∧ ∃ v', Wrote base b o C v S s w w' v' :=
  write_go base b o (o + 1) C v S s w rfl hB (Bi.slice_of hbt) (check b o C w hk hC ho h0) (by rw [List.getElem?_set_ne (by omega)]; exact h1) hbt hlen hk
end Bo
/-- a builder in a block of its own -/
def BW (base b : Nat) (W : World) (S : List UInt8) : Prop := base ≤ b ∧ ∃ a v, Rg.Bk b [a, v] 67 W ∧ (a = .pointer none ∨ a = .pointer (some ⟨b, 0, none⟩)) ∧ BAt base W v S
theorem BW.start {base b : Nat} {W : World} (hb : base ≤ b) (k : Rg.Bk b [.pointer none, .slice none 0 0] 67 W) : BW base b W [] := ⟨hb, _, _, k, .inl rfl, BAt.start _ _⟩
theorem BW.lt {base b : Nat} {W : World} {S : List UInt8} (h : BW base b W S) : b < W.heap.size := by
  obtain ⟨_, a, v, k, _⟩ := h
  exact k.lt
/-- what is neither the builder nor its bytes is kept -/
theorem BW.kept {base b : Nat} {W W' : World} {S : List UInt8} (h : BW base b W S) (hk : ∀ (k : Nat) (cur : Array Value) (T : TypeId) (fz : Nat × Nat), W.heap[k]? = some (Obj.cells cur T fz) → T = 5 ∨ T = 67 → W'.heap[k]? = W.heap[k]?) : BW base b W' S := by
  obtain ⟨hb, a, v, k, ha, hv⟩ := h
  refine ⟨hb, a, v, k.same (hk b _ _ _ k (.inr rfl)), ha, hv.kept fun g hg => ?_⟩
  obtain ⟨c, fz, hT⟩ := Lib.ownsRowF_kind hv.own g hg
  exact hk g _ _ _ hT (.inl rfl)
/-- what a method of the builder leaves -/
structure BWPost (base b : Nat) (W w' : World) (S : List UInt8) : Prop where
  at_ : BW base b w' S
  bel : Below base W w'
  oth : ∀ (k : Nat) (cur : Array Value) (T : TypeId) (fz : Nat × Nat), W.heap[k]? = some (Obj.cells cur T fz) → T ≠ 5 → T ≠ 67 → w'.heap[k]? = W.heap[k]?
theorem BW.write {base b : Nat} {W : World} {S : List UInt8} (h : BW base b W S) (s : ByteArray) (hlen : S.length + s.size ≤ 140737488355328) :
    Calls Tryz.prog 101 #[.pointer (some ⟨b, 0, none⟩), .string s] W fun e w' => e = .returned (.tuple #[.int .i64 s.size, .nilIface]) ∧ BWPost base b W w' (S ++ s.data.toList) := by
  obtain ⟨hb, a, v, k, ha, hv⟩ := h
  refine (Bo.write base b 0 [a, v] v S s W hb k rfl rfl (by rcases ha with e | e <;> simp [e]) rfl hv hlen).mono ?_
  rintro e w' ⟨rfl, v', hw⟩
  refine ⟨rfl, ⟨hb, _, v', hw.bk, .inr rfl, hw.bat⟩, hw.bel, fun g cur T fz hg h5 hB => ?_⟩
  refine hw.blk g (Array.getElem?_eq_some_iff.1 hg).1 (fun e => ?_) (fun e => ?_)
  · have hb2 := k
    unfold Rg.Bk at hb2
    rw [← e, hg] at hb2
    cases hb2
    exact hB rfl
  · obtain ⟨c, fz2, hc⟩ := Lib.ownsRowF_kind hv.own g e
    rw [hg] at hc
    cases hc
    exact h5 rfl
theorem BW.str {base b : Nat} {W : World} {S : List UInt8} (h : BW base b W S) :
    Calls Tryz.prog 44 #[.pointer (some ⟨b, 0, none⟩)] W fun e w' => e = .returned (.string ⟨S.toArray⟩) ∧ Below base W w' ∧ (∃ a v, Rg.Bk b [a, v] 67 w') ∧ (∀ (k : Nat) (cur : Array Value) (T : TypeId) (fz : Nat × Nat), W.heap[k]? = some (Obj.cells cur T fz) → T ≠ 5 → w'.heap[k]? = W.heap[k]?) := by
  obtain ⟨hb, a, v, k, ha, hv⟩ := h
  refine (Bi.str base b 0 v S W (k.cell 1) hv).mono ?_
  rintro e w' ⟨rfl, hw⟩
  have hoth : ∀ (k : Nat) (cur : Array Value) (T : TypeId) (fz : Nat × Nat), W.heap[k]? = some (Obj.cells cur T fz) → T ≠ 5 → w'.heap[k]? = W.heap[k]? := fun g cur T fz hg h5 => hw.blk g (Array.getElem?_eq_some_iff.1 hg).1 (fun e => by
    obtain ⟨c, fz2, hc⟩ := Lib.ownsRowF_kind hv.own g e
    rw [hg] at hc
    cases hc
    exact h5 rfl)
  exact ⟨rfl, hw.bel, ⟨a, v, k.same (hoth b _ _ _ k (by decide))⟩, hoth⟩
end Go.Proofs.YtomldoijcclhhaaGreat

namespace Go.Proofs.YtomldoijcclhhaaGreat
open Go.RowKit
/-- where nothing lies -/
def Pl.inone : Pl := ⟨none, 0, none, 0, none, 0, none, 0⟩
theorem IDR.zero {Kp : Nat → Prop} (W : World) (ca : Bool) (z ro : Int) : IDR Kp W (Ip.begin_ ca z ro) Pl.inone := ⟨⟨.inl rfl, .inl rfl, .inl rfl, .inl rfl⟩, Nat.le_refl _, Nat.le_refl _, Nat.zero_le _, Nat.zero_le _, .inl rfl, .inl rfl, .inl rfl, .inl rfl⟩
/-- what Begin hands back -/
def IBPost (Kp : Nat → Prop) (w : World) (d : Gp.Dr) (s : List UInt8) (e : Ending) (w' : World) : Prop := ∃ p', e = .returned (.tuple #[DV d p', .string ⟨s.toArray⟩, .int .i64 0]) ∧ IDR Kp w' d p' ∧ Below w.heap.size w w'
set_option maxHeartbeats 4000000 in
set_option maxRecDepth 100000 in
theorem ibegin_yes {Kp : Nat → Prop} (ca : Bool) (z ro : Int) (w : World) (h1 : 1 ≤ z ∧ z ≤ 4095) (h2 : 1 ≤ ro ∧ ro ≤ 16) (hK : Hid (∀ b, w.heap.size ≤ b → Kp b)) :
    Calls Tryz.prog 61 #[.bool ca, .int .i64 z, .int .i64 ro] w fun e w' => IBPost Kp w (Ip.begin_ ca z ro) (Ip.sync (Ip.begin_ ca z ro)) e w' := by
  have HM := Rg.hid (fun W => imayBe_yes h1 h2 W)
  have kR0 : Hid (Rg.Bk w.heap.size [.int .i64 0, .int .i64 0, .bool false, .int .i64 0, .int .i64 0, .int .i64 0, .int .i64 0, .int .i64 0, .int .i64 0, .slice none 0 0, .int .i64 0, .slice none 0 0, .string ⟨#[]⟩, .int .i64 0, .slice none 0 0, .int .i64 0, .int .i64 0, .slice none 0 0] 29 (w.alloc (.cells #[.int .i64 0, .int .i64 0, .bool false, .int .i64 0, .int .i64 0, .int .i64 0, .int .i64 0, .int .i64 0, .int .i64 0, .slice none 0 0, .int .i64 0, .slice none 0 0, .string ⟨#[]⟩, .int .i64 0, .slice none 0 0, .int .i64 0, .int .i64 0, .slice none 0 0] 29))) := Rg.Bk.new (by simp)
  have hb0 := Rg.hid (Rg.al1 w (.cells #[.int .i64 0, .int .i64 0, .bool false, .int .i64 0, .int .i64 0, .int .i64 0, .int .i64 0, .int .i64 0, .int .i64 0, .slice none 0 0, .int .i64 0, .slice none 0 0, .string ⟨#[]⟩, .int .i64 0, .slice none 0 0, .int .i64 0, .int .i64 0, .slice none 0 0] 29))
  have HO : Hid (∀ W eb, w.heap.size ≤ eb → Rg.Bk eb [.int .i64 105, .int .i64 1, .bool ca, .int .i64 0, .int .i64 z, .int .i64 ro, .int .i64 0, .int .i64 0, .int .i64 0, .slice none 0 0, .int .i64 1, .slice none 0 0, .string ⟨#[]⟩, .int .i64 0, .slice none 0 0, .int .i64 0, .int .i64 0, .slice none 0 0, .pointer none, .slice none 0 0, .slice none 0 0] 81 W → Below w.heap.size w W → Calls Tryz.prog 95 #[.pointer (some ⟨eb, 0, none⟩)] W fun e w' => e = .returned (.tuple #[]) ∧ Hid (∃ p1 q1, IAt (fun b => Kp b ∧ b < w.heap.size) w' eb (Ip.begin_ ca z ro) p1 q1 (Ip.sync (Ip.begin_ ca z ro)) []) ∧ Hid (Below eb W w')) := fun W eb hn k hb => by
    have hE : IAt (fun b => Kp b ∧ b < w.heap.size) W eb (Ip.begin_ ca z ro) (iown Pl.inone) ⟨.pointer none, .slice none 0 0, .slice none 0 0, none⟩ [] [] := (IDR.zero (Kp := fun b => Kp b ∧ b < w.heap.size) w ca z ro).end_ hb k hn
    have hB : Ip.base (Ip.begin_ ca z ro) := ⟨rfl, h1, h2, (show (0 : Int) ≤ 1 ∧ (1 : Int) ≤ 31 by decide), (show (0 : Int) ≤ 0 ∧ (0 : Int) ≤ 1099511627776 by decide), (show (0 : Int) ≤ 0 ∧ (0 : Int) ≤ 3 by decide), (show (0 : Int) ≤ 0 ∧ (0 : Int) ≤ 13 by decide), (fun _ h => by cases h), (fun _ h => by cases h), trivial⟩
    refine (isaySync_any hE hB (by simp)).mono fun e w' hp => ?_
    obtain ⟨hp1, ⟨s1, sb1, hp2⟩, hp3⟩ := hp
    rw [List.nil_append] at hp2
    exact ⟨hp1, ⟨_, _, hp2⟩, hp3.bel⟩
  obtain ⟨d1, hd1⟩ : ∃ d1, d1 = Ip.begin_ ca z ro := ⟨_, rfl⟩
  obtain ⟨so, hso⟩ : ∃ so, so = Ip.sync (Ip.begin_ ca z ro) := ⟨_, rfl⟩
  have hqr : Hid (d1.queue.length ≤ 100000) := by rw [hd1]; exact Nat.zero_le _
  have hwr : Hid (d1.win.l.length ≤ 100000) := by rw [hd1]; exact Nat.zero_le _
  rw [← hso, ← hd1] at HO ⊢
  replace hd1 := Rg.hid hd1
  replace hso := Rg.hid hso
  clear h1 h2
  go_enter Tryz.func61, Tryz.ntmps61
  go_upto_region 1 with fail
  generalize World.alloc _ _ = w1 at *
  obtain ⟨R, hR⟩ : ∃ R, R = w.heap.size := ⟨_, rfl⟩
  rw [← hR] at kR0 ⊢
  have hRw : Hid (w.heap.size ≤ R) := by show _ ≤ _; omega
  replace hR := Rg.hid hR
  have kE0 : Hid (Rg.Bk w1.heap.size [.int .i64 105, .int .i64 1, .bool ca, .int .i64 0, .int .i64 z, .int .i64 ro, .int .i64 0, .int .i64 0, .int .i64 0, .slice none 0 0, .int .i64 1, .slice none 0 0, .string ⟨#[]⟩, .int .i64 0, .slice none 0 0, .int .i64 0, .int .i64 0, .slice none 0 0, .pointer none, .slice none 0 0, .slice none 0 0] 81 (w1.alloc (.cells #[.int .i64 105, .int .i64 1, .bool ca, .int .i64 0, .int .i64 z, .int .i64 ro, .int .i64 0, .int .i64 0, .int .i64 0, .slice none 0 0, .int .i64 1, .slice none 0 0, .string ⟨#[]⟩, .int .i64 0, .slice none 0 0, .int .i64 0, .int .i64 0, .slice none 0 0, .pointer none, .slice none 0 0, .slice none 0 0] 81))) := Rg.Bk.new rfl
  have b2 := Rg.hid (Rg.al1 w1 (.cells #[.int .i64 105, .int .i64 1, .bool ca, .int .i64 0, .int .i64 z, .int .i64 ro, .int .i64 0, .int .i64 0, .int .i64 0, .slice none 0 0, .int .i64 1, .slice none 0 0, .string ⟨#[]⟩, .int .i64 0, .slice none 0 0, .int .i64 0, .int .i64 0, .slice none 0 0, .pointer none, .slice none 0 0, .slice none 0 0] 81))
  go_upto_region 4 with (go_at_call 73; refine (HM.out _).mono ?_; rintro e w2 ⟨rfl, hw⟩; obtain rfl := hw.symm)
  generalize World.alloc _ _ = w2 at *
  have hb2 := Rg.hid (Rg.chain hb0.out b2.out)
  have kR2 := Rg.hid (kR0.out.below b2.out kR0.out.lt)
  obtain ⟨eb, heb⟩ : ∃ eb, eb = w1.heap.size := ⟨_, rfl⟩
  rw [← heb] at kE0 ⊢
  have hRe : Hid (R < eb) := by show _ < _; rw [heb]; exact kR0.out.lt
  have hle : w.heap.size ≤ eb := by rw [heb]; exact hb0.out.size
  replace heb := Rg.hid heb
  have hle2 := Rg.hid hle
  have hRe2 : Hid (eb ≠ R) := fun e => by have := hRe.out; omega
  have HO1 := Rg.hid (HO.out w2 eb hle kE0.out hb2.out)
  clear HO kE0 b2 hle HM hb0 kR0
  go_upto_region 5 with (go_at_call 95; refine HO1.out.mono ?_; rintro e w3 ⟨rfl, hq, hf⟩)
  obtain ⟨p1, q1, hE⟩ := hq.out
  replace hE := Rg.hid hE
  have kR3 := Rg.hid (kR2.out.same (hf.out.block R hRe.out))
  have hb4 := Rg.hid (hb2.out.trans (hf.out.mono hle2.out))
  have HStr := Rg.hid (istr_end hE.out kR3.out)
  clear HO1 hq hf hb2 kR2
  refine wp_region_held_drew (S := (fun (w' : World) => Rg.Bk eb (IC d1 p1 q1) 81 w')) (by kernel_rfl) ?_ (fun hH0 => ?_)
  · exact hE.out.bk
  refine wpAnyH_take (i := 0) (oi := { dst := some 23, op := _, type := _, pos := _, after := _, guard := _ }) (v := ?_) rfl (by kernel_rfl) (by kernel_rfl) (by kernel_rfl) (fun _ _ _ h => h) (Or.inl ⟨by rfl, ?_⟩) (by assumption) ?_
  rotate_left
  · (intro w hSw; clear hSw; go_simp); (try with_reducible rfl)
  simp only [Act.put, List.setIfInBounds_toArray, List.set_cons_zero, List.set_cons_succ]
  refine wpAnyH_take (i := 1) (oi := { dst := some 24, op := _, type := _, pos := _, after := _, guard := _ }) (v := ?_) rfl (by kernel_rfl) (by kernel_rfl) (by kernel_rfl) (fun _ _ _ h => h) (Or.inl ⟨by rfl, ?_⟩) (by assumption) ?_
  rotate_left
  · (intro w hSw; clear hSw; go_simp); (try with_reducible rfl)
  simp only [Act.put, List.setIfInBounds_toArray, List.set_cons_zero, List.set_cons_succ]
  refine wpAnyH_take (i := 2) (oi := { dst := some 25, op := _, type := _, pos := _, after := _, guard := _ }) (v := ?_) rfl (by kernel_rfl) (by kernel_rfl) (by kernel_rfl) (fun _ _ _ h => h) (Or.inl ⟨by rfl, ?_⟩) (by assumption) ?_
  rotate_left
  · (intro w hSw; clear hSw; go_simp); (try with_reducible rfl)
  simp only [Act.put, List.setIfInBounds_toArray, List.set_cons_zero, List.set_cons_succ]
  refine wpAnyH_take (i := 3) (oi := { dst := some 26, op := _, type := _, pos := _, after := _, guard := _ }) (v := DV d1 p1) rfl (by kernel_rfl) (by kernel_rfl) (by kernel_rfl) (fun _ _ _ h => h) (Or.inl ⟨by rfl, fun w hSw => iexec_load_row _ _ rfl rfl (iload_end hSw)⟩) (by assumption) ?_
  simp only [Act.put, List.setIfInBounds_toArray, List.set_cons_zero, List.set_cons_succ]
  refine wpAnyH_take (i := 4) (oi := { dst := some 27, op := _, type := _, pos := _, after := _, guard := _ }) (v := ?_) rfl (by kernel_rfl) (by kernel_rfl) (by kernel_rfl) (fun _ _ _ h => h) (Or.inl ⟨by rfl, ?_⟩) (by assumption) ?_
  rotate_left
  · (intro w hSw; clear hSw; go_simp); (try with_reducible rfl)
  simp only [Act.put, List.setIfInBounds_toArray, List.set_cons_zero, List.set_cons_succ]
  refine wpAnyH_take (i := 5) (oi := { dst := some 28, op := _, type := _, pos := _, after := _, guard := _ }) (v := ?_) rfl (by kernel_rfl) (by kernel_rfl) (by kernel_rfl) (fun _ _ _ h => h) (Or.inl ⟨by rfl, ?_⟩) (by assumption) ?_
  rotate_left
  · (intro w hSw; clear hSw; go_simp); (try with_reducible rfl)
  simp only [Act.put, List.setIfInBounds_toArray, List.set_cons_zero, List.set_cons_succ]
  refine wpAnyH_take (i := 6) (oi := { dst := some 29, op := _, type := _, pos := _, after := _, guard := _ }) (v := ?_) rfl (by kernel_rfl) (by kernel_rfl) (by kernel_rfl) (fun _ _ _ h => h) (Or.inl ⟨by rfl, ?_⟩) (by assumption) ?_
  rotate_left
  · (intro w hSw; clear hSw; go_simp); (try with_reducible rfl)
  simp only [Act.put, List.setIfInBounds_toArray, List.set_cons_zero, List.set_cons_succ]
  refine wpAnyH_ready (rs := [7]) (by kernel_rfl) (by simp) ?_
  refine AllReadyH.cons (o := { dst := some 30, op := _, type := _, pos := _, after := _, guard := _ }) rfl (fun K hK => ?_) AllReadyH.nil
  go_simp
  go_at_call 44; refine HStr.out.mono ?_; rintro e w5 ⟨rfl, hb5, kE5, kR5⟩
  refine hK.out _ _ ?_ (fun hH7 => ?_)
  · exact kE5.out
  clear hK K hH0
  try simp only [Act.put, List.setIfInBounds_toArray, List.set_cons_zero, List.set_cons_succ]
  obtain ⟨w6, hst, kR6, oR6⟩ := Rg.row_storeVar (P := Tryz.prog) (t := 29) (CS := (DC d1 p1).toArray) kR5.out iinfoDr2 rfl (by simp [DC, Value.oneCell'])
  replace hst : Hid ((storeVar 29 ⟨R, 0, none⟩ (DV d1 p1)).run Tryz.prog w5 = .ok () w6) := hst
  have kE6 : Hid (Rg.Bk eb (IC d1 p1 q1) 81 w6) := kE5.out.same (oR6.block eb hRe2.out)
  refine wpAnyH_ready (rs := [8]) (by kernel_rfl) (by simp) ?_
  refine AllReadyH.cons (o := { dst := none, op := _, type := _, pos := _, after := _, guard := _ }) rfl (fun K hK => ?_) AllReadyH.nil
  refine istep_store_row (by rfl) (.tmp 6) (.tmp 26) 29 (by rfl) (by rfl) (by rfl) hst.out ?_
  refine hK.out _ _ ?_ (fun hH8 => ?_)
  · exact kE6.out
  clear hK K hH7
  simp only [Act.put]
  refine wpAnyH_take (i := 9) (oi := { dst := some 7, op := _, type := _, pos := _, after := _, guard := _ }) (v := ?_) rfl (by kernel_rfl) (by kernel_rfl) (by kernel_rfl) (fun _ _ _ h => h) (Or.inl ⟨by rfl, ?_⟩) (by assumption) ?_
  rotate_left
  · (intro w hSw; clear hSw; go_simp); (try with_reducible rfl)
  simp only [Act.put, List.setIfInBounds_toArray, List.set_cons_zero, List.set_cons_succ]
  refine wpAnyH_take (i := 10) (oi := { dst := some 8, op := _, type := _, pos := _, after := _, guard := _ }) (v := ?_) rfl (by kernel_rfl) (by kernel_rfl) (by kernel_rfl) (fun _ _ _ h => h) (Or.inl ⟨by rfl, ?_⟩) (by assumption) ?_
  rotate_left
  · (intro w hSw; clear hSw; go_simp); (try with_reducible rfl)
  simp only [Act.put, List.setIfInBounds_toArray, List.set_cons_zero, List.set_cons_succ]
  refine wpAnyH_done (by kernel_rfl) ?_ _
  have hfin : IDR Kp w6 d1 p1 := hE.out.rest hqr.out hwr.out hle2.out hK.out kR3.out hRe.out (fun k hk h1 h2 h3 => by rw [oR6.block k h2]; exact hb5.out.2 k hk h3) ((hb5.out.1.mono hle2.out).trans (oR6.bel hRw.out))
  have hbel : Below w.heap.size w w6 := (hb4.out.trans (hb5.out.1.mono hle2.out)).trans (oR6.bel hRw.out)
  have hres : (loadVar 29 ⟨R, 0, none⟩).run Tryz.prog w6 = .ok (DV d1 p1) w6 := Rg.row_loadVar (P := Tryz.prog) (t := 29) (CS := (DC d1 p1).toArray) kR6 Tryz.underlying29 rfl iinfoDr2
  have hfe : IBPost Kp w d1 so (.returned (.tuple #[DV d1 p1, .string ⟨so.toArray⟩, .int .i64 0])) w6 := ⟨p1, rfl, hfin, hbel⟩
  clear hfin hbel hE HStr hb5 kE5 kR5 oR6 kE6 kR6 hst hb4 kR3 hH8
  go_wp2
  exact bodyPost_ret (v := .tuple #[DV d1 p1, .string ⟨so.toArray⟩, .int .i64 0]) (iresults_row3 rfl rfl rfl rfl hres) rfl hfe
end Go.Proofs.YtomldoijcclhhaaGreat

namespace Go.Proofs.YtomldoijcclhhaaGreat
namespace Ip
open Gp (Dr Pc Fi)
/-- the joined list, reckoned from the front, behind what was gathered -/
def jo : ByteArray → List Pc → List Pc
  | _, [] => []
  | B, [p] => [⟨p.ch, B ++ p.data⟩]
  | B, p :: q :: r => if q.ch = p.ch then jo (B ++ p.data) (q :: r) else ⟨p.ch, B ++ p.data⟩ :: jo ByteArray.empty (q :: r)
end Ip
end Go.Proofs.YtomldoijcclhhaaGreat
