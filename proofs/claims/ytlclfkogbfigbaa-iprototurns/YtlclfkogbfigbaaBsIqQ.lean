/-
  Layer 16: IprotoTurns' walk.
-/
import Derived.Test.YtlclfkogbfigbaaBsIqP
import Derived.Deep.RegionHeld3
import Derived.Deep.DeepCutAuto
namespace Go.Proofs.Ytlclfkogbfigbaa
open Go.RowKit
namespace Ip
theorem dat_step (l : List Gp.Pc) (i : Nat) (h : i < l.length) (a : List UInt8) : (⟨(a ++ dat (l.take i)).toArray⟩ : ByteArray) ++ l[i].data = ⟨(a ++ dat (l.take (i + 1))).toArray⟩ := by
  have e : l[i].data = ⟨l[i].data.data.toList.toArray⟩ := rfl
  have e2 : dat (l.take (i + 1)) = dat (l.take i) ++ l[i].data.data.toList := by
    rw [← List.take_append_getElem h, dat_app]
    congr 1
    simp [dat]
  rw [e, Ip.cat_bytes, e2, List.append_assoc]
theorem dat_len (l : List Gp.Pc) (i : Nat) (h : i < l.length) : (dat (l.take i)).length + l[i].data.size ≤ (dat l).length := by
  have e : dat l = dat (l.take i) ++ (l[i].data.data.toList ++ dat (l.drop (i + 1))) := by
    conv => lhs; rw [← List.take_append_drop i l, List.drop_eq_getElem_cons h]
    simp only [dat, List.flatMap_append, List.flatMap_cons]
  have e2 : l[i].data.size = l[i].data.data.toList.length := (Array.length_toList ..).symm
  rw [e, List.length_append, List.length_append, e2]
  omega
end Ip
def izD' : Gp.Dr := ⟨0, 0, false, 0, 0, 0, Wn.zero, 0, [], [], 0, [], 0, 0, []⟩
theorem izDH' (Kp : Nat → Prop) (W : World) : IDH Kp W izD' #[.int .i64 0, .int .i64 0, .bool false, .int .i64 0, .int .i64 0, .int .i64 0, .int .i64 0, .int .i64 0, .int .i64 0, .slice none 0 0, .int .i64 0, .slice none 0 0, .string ⟨#[]⟩, .int .i64 0, .slice none 0 0, .int .i64 0, .int .i64 0, .slice none 0 0] := ⟨⟨none, 0, none, 0, none, 0, none, 0⟩, rfl, ⟨.inl rfl, .inl rfl, .inl rfl, .inl rfl⟩, Nat.le_refl _, Nat.zero_le _, Nat.zero_le _, Nat.zero_le _, .inl rfl, .inl rfl, .inl rfl, .inl rfl⟩
set_option maxHeartbeats 1000000 in
theorem ifront_go (S T : ByteArray) (w : World) (i2 : (T.size : Int) ≤ (S.size : Int)) (hx : S.extract 0 T.size = T) : Calls Try.prog 8 #[.string S, .string T] w fun e w' => e = .returned (.bool true) ∧ w' = w := by
  go_enter Try.func8, Try.ntmps8
  go_wp2
  go_ret
  exact ⟨by simp, rfl⟩
theorem ext_front (a r : List UInt8) : (⟨(a ++ r).toArray⟩ : ByteArray).extract 0 (⟨a.toArray⟩ : ByteArray).size = ⟨a.toArray⟩ := by
  apply ByteArray.ext
  rw [ByteArray.data_extract]
  apply Array.ext'
  have hs : (⟨a.toArray⟩ : ByteArray).size = a.length := isize_bytes a
  rw [hs]
  simp
theorem ifront_any (wn n : Nat) (h : wn ≤ n) (w : World) : Calls Try.prog 8 #[.string ⟨(Ip.wholeN n).toArray⟩, .string ⟨(Ip.wholeN wn).toArray⟩] w fun e w' => e = .returned (.bool true) ∧ w' = w := by
  obtain ⟨r, hr⟩ := Ip.whole_front wn n h
  have h1 : (⟨(Ip.wholeN n).toArray⟩ : ByteArray).size = 2 * n := by rw [isize_bytes, Ip.whole_len]
  have h2 : (⟨(Ip.wholeN wn).toArray⟩ : ByteArray).size = 2 * wn := by rw [isize_bytes, Ip.whole_len]
  refine ifront_go _ _ w (by rw [h1, h2]; omega) ?_
  rw [hr]
  exact ext_front _ _
theorem TwI.cell {B5 B8 base i tc R : Nat} {w wr : World} {t : Option Addr} {da db : Gp.Dr} (h : TwI B5 B8 base w wr (.slice t i tc) i da db) (hR : R < i) : ∃ g, t = some ⟨g, 0, none⟩ ∧ wr.cell? ⟨g, R, none⟩ = some (.string (Ip.sdB R)) ∧ g < wr.heap.size := by
  rcases h.own.2 with ⟨_, e⟩ | ⟨g, cap, cur, e, _⟩
  · omega
  · injection e with e1 _ _
    subst e1
    have h1 := h.own.cells (g := g) rfl R (.string (Ip.sdB R)) (by rw [str_flat]; unfold Ip.said; rw [List.getElem?_map, List.getElem?_map, List.getElem?_range hR]; rfl)
    rw [Addr.add_lit, Nat.zero_add] at h1
    exact ⟨g, rfl, h1, (h.own.lt g rfl).2⟩
/-- what stands behind Feed, within a round -/
def IS25 (B5 B8 base : Nat) (w : World) (v : Value) (i : Nat) (da db : Gp.Dr) (r : Gp.Dr × List UInt8 × List Gp.Pc) (v20 v21 v22 : Value) (wx : World) : Prop := ∃ B20 C5 x5 c5 s5, v20 = .pointer (some ⟨B20, 0, none⟩) ∧ v21 = .string s5 ∧ v22 = .slice x5 (Ip.join r.2.2).length c5 ∧ Hid (B20 ≠ B8) ∧ Hid (Rg.Bk B20 (Array.toList C5) 32 wx) ∧ Hid (IDH (KT B5 B8 v) wx r.1 C5) ∧ Hid (TwI B5 B8 base w wx v i da db) ∧ Hid (ERow pcE wx x5 (Ip.join r.2.2) ∧ iKRow (KT B5 B8 v) x5 (Ip.join r.2.2))
theorem IS25.mk1 {B5 B8 base i : Nat} {w wr w3 w4 : World} {v : Value} {da db : Gp.Dr} {r : Gp.Dr × List UInt8 × List Gp.Pc} {C5 : Array Value} {x5 : Option Addr} {c5 : Nat} {s5 : ByteArray} (hT : TwI B5 B8 base w wr v i da db) (b3 : Below wr.drew.heap.size wr.drew w3) (b4 : Below w3.heap.size w3 w4) (k : Rg.Bk w3.heap.size C5.toList 32 w4) (hd : IDH (KT B5 B8 v) w4 r.1 C5) (hl : ERow pcE w3 x5 (Ip.join r.2.2) ∧ iKRow (KT B5 B8 v) x5 (Ip.join r.2.2)) (_hr : True) :
    IS25 B5 B8 base w v i da db r (.pointer (some ⟨w3.heap.size, 0, none⟩)) (.string s5) (.slice x5 (Ip.join r.2.2).length c5) w4 := by
  have b24 : Below wr.heap.size wr w4 := Rg.chain (Rg.chain (Below.refl _ wr).drew b3) b4
  obtain ⟨_, h4, _⟩ := hT.db
  exact ⟨_, C5, x5, c5, s5, rfl, rfl, rfl, (by show _ ≠ _; have := h4.lt; have := b3.size; have : wr.drew.heap.size = wr.heap.size := rfl; omega), k, hd, hT.below b24, hl.1.below b4, hl.2⟩
theorem IS25.mk2 {B5 B8 base i : Nat} {w wr w4 w5 : World} {v : Value} {da db : Gp.Dr} {ob : Obj} {r : Gp.Dr × List UInt8 × List Gp.Pc} {C5 : Array Value} {x5 : Option Addr} {c5 : Nat} {s5 : ByteArray} (hT : TwI B5 B8 base w wr v i da db) (b4 : Below (wr.drew.alloc ob).heap.size (wr.drew.alloc ob) w4) (o5 : Rg.Only wr.drew.heap.size w4 w5) (k : Rg.Bk wr.drew.heap.size C5.toList 32 w5) (hd : IDH (fun x => KT B5 B8 v x ∧ x ≠ wr.drew.heap.size) w4 r.1 C5) (hl : ERow pcE w4 x5 (Ip.join r.2.2) ∧ iKRow (fun x => KT B5 B8 v x ∧ x ≠ wr.drew.heap.size) x5 (Ip.join r.2.2)) (_hr : True) :
    IS25 B5 B8 base w v i da db r (.pointer (some ⟨wr.drew.heap.size, 0, none⟩)) (.string s5) (.slice x5 (Ip.join r.2.2).length c5) w5 := by
  have b24 : Below wr.heap.size wr w4 := Rg.chain (Rg.chain (Below.refl _ wr).drew (Rg.al1 wr.drew ob)) b4
  have hn : ¬ (fun x => KT B5 B8 v x ∧ x ≠ wr.drew.heap.size) wr.drew.heap.size := fun h => h.2 rfl
  have b25 : Below wr.heap.size wr w5 := b24.trans (o5.bel (Nat.le_refl _))
  have hB : B8 ≠ wr.drew.heap.size := by
    obtain ⟨_, h4, _⟩ := hT.db
    have := h4.lt
    show B8 ≠ wr.heap.size
    omega
  refine ⟨_, C5, x5, c5, s5, rfl, rfl, rfl, (fun e => hB e.symm), k, (hd.only hn o5).low (fun b h _ => h.1), hT.below b25, iarow_only hl.1 hl.2 hn o5, ?_⟩
  rcases hl.2 with h | ⟨b, o, h1, h2⟩
  · exact .inl h
  · exact .inr ⟨b, o, h1, h2.1⟩
theorem turn_next {k wn wn2 : Nat} (h0 : k ≤ wn) (h1 : wn ≤ wn2) (h2 : wn = k → k < wn2) : k + 1 ≤ wn2 := by
  by_cases h : wn = k
  · exact h2 h
  · omega
theorem turn_num (x : Int) (i : Nat) (h : 1 ≤ i) : ∃ V R : Nat, IntKind.u64.wrap x = (V : Int) ∧ (V : Int).tmod (i : Int) = (R : Int) ∧ R < i ∧ (0 : Int) ≤ (R : Int) ∧ (R : Int) < (i : Int) := by
  obtain ⟨V, hV⟩ : ∃ V : Nat, IntKind.u64.wrap x = (V : Int) := ⟨(IntKind.u64.wrap x).toNat, by rw [IntKind.wrap_u64]; omega⟩
  have hlt := Nat.mod_lt V (show i > 0 by omega)
  refine ⟨V, V % i, hV, ?_, hlt, by omega, by omega⟩
  rw [Int.tmod_eq_emod_of_nonneg (by omega)]
  rfl
set_option maxHeartbeats 8000000 in
set_option maxRecDepth 100000 in
theorem iturns_core (n0 : Int) (U K N m cap : Nat) (l : List Int) (a : Option Addr) (w : World) (A0 B0 : Gp.Dr) (SA SB : ByteArray) (u0 : IntKind.u64.wrap n0 = (U : Int)) (u1 : (U : Int).tmod 8 = (K : Int)) (u2 : IntKind.i64.wrap (K : Int) = (K : Int)) (u3 : wrap64 (1 + (K : Int)) = (N : Int)) (u4 : IntKind.u64.wrap (N : Int) = (N : Int)) (u5 : ¬ (N : Int) = 0) (hN : Hid (1 ≤ N ∧ N ≤ 8)) (hm : Hid (m = l.length)) (dm : decide ((60 : Int) < (m : Int)) = false) (hm60 : Hid (m ≤ 60)) (hrow : Hid (ERow intE w a l))
    (hA0 : Hid (A0 = Ip.begin_ true 3 16)) (hB0 : Hid (B0 = Ip.begin_ false 3 16)) (hSA : Hid (SA = ⟨(Ip.sync (Ip.begin_ true 3 16)).toArray⟩)) (hSB : Hid (SB = ⟨(Ip.sync (Ip.begin_ false 3 16)).toArray⟩))
    (HB1 : Hid (∀ W, Calls Try.prog 5 #[.bool true, .int .i64 3, .int .i64 16] W fun e w' => ∃ CS, e = .returned (.tuple #[.agg CS, .string SA, .int .i64 0]) ∧ Hid (IDH (fun _ => True) w' A0 CS) ∧ Hid (Below W.heap.size W w')))
    (HB2 : Hid (∀ W, Calls Try.prog 5 #[.bool false, .int .i64 3, .int .i64 16] W fun e w' => ∃ CS, e = .returned (.tuple #[.agg CS, .string SB, .int .i64 0]) ∧ Hid (IDH (fun _ => True) w' B0 CS) ∧ Hid (Below W.heap.size W w')))
    (HA : Hid (∀ W, Calls Try.prog 4 #[] W fun e w' => e = .returned (.bool true) ∧ Below W.heap.size W w')) :
    Calls Try.prog 3 #[.int .i64 n0, .slice a m cap] w fun e w' => e = .returned (.bool true) ∧ Below w.heap.size w w' := by
  go_enter Try.func3, Try.ntmps3
  go_upto_region 4 with fail
  rw [u3]
  clear u0 u1 u2 u3
  go_upto_region 5 with (first | (go_at_call 5; refine (HB1.out _).mono ?_; rintro e w1 ⟨CA, rfl, hA1, b1⟩; obtain ⟨w2, st2, k2, b2, hA2⟩ := hA1.out.box) | (with_reducible refine is_store (.tmp 5) (.tmp 43) 32 ?_; refine list_store (.tmp 5) (.tmp 43) 32 rfl rfl st2.out ?_))
  obtain ⟨B5, hB5⟩ : ∃ B, B = w1.heap.size := ⟨_, rfl⟩
  rw [← hB5] at k2 ⊢
  have h5w : Hid (w.heap.size ≤ B5) := by show _ ≤ _; rw [hB5]; exact b1.out.size
  have b12 := Rg.hid (Rg.chain b1.out b2.out)
  clear HB1 hA1 st2 b1 b2 hB5
  go_upto_region 6 with (first | (go_at_call 5; refine (HB2.out _).mono ?_; rintro e w3 ⟨CB, rfl, hB3, b3⟩; obtain ⟨w4, st4, k4, b4, hB4⟩ := hB3.out.box) | (with_reducible refine is_store (.tmp 8) (.tmp 48) 32 ?_; refine list_store (.tmp 8) (.tmp 48) 32 rfl rfl st4.out ?_))
  obtain ⟨B8, hB8⟩ : ∃ B, B = w3.heap.size := ⟨_, rfl⟩
  rw [← hB8] at k4 ⊢
  have h58 : Hid (B5 < B8) := by show _ < _; rw [hB8]; exact Nat.lt_of_lt_of_le k2.out.lt b3.out.size
  have b24 := Rg.hid (Rg.chain b3.out b4.out)
  have b04 := Rg.hid (Rg.chain b12.out b24.out)
  have kA4 := Rg.hid (k2.out.below b24.out k2.out.lt)
  have hA4 : Hid (IDH (KT B5 B8 (.slice none 0 0)) w4 A0 CA) := (hA2.out.below b24.out).any (by rw [hA0.out]; rfl) (by rw [hA0.out]; rfl) (by rw [hA0.out]; rfl) (by rw [hA0.out]; rfl)
  have hB4' : Hid (IDH (KT B5 B8 (.slice none 0 0)) w4 B0 CB) := hB4.out.any (by rw [hB0.out]; rfl) (by rw [hB0.out]; rfl) (by rw [hB0.out]; rfl) (by rw [hB0.out]; rfl)
  have hK4 : Hid (∀ W : World, w4.heap.size ≤ W.heap.size → ∀ b, W.heap.size ≤ b → KT B5 B8 (.slice none 0 0) b) := by
    intro W h1 b h2
    have := k4.out.lt
    have := h58.out
    exact ⟨by omega, by omega, by simp [Value.ownBlock]⟩
  have z13a : (Ip.sync (Ip.begin_ false 3 16)).length = 13 := by decide +kernel
  have z13b : (Ip.sync (Ip.begin_ true 3 16)).length = 13 := by decide +kernel
  have HF1 : Hid (Calls Try.prog 6 #[.agg CA, .string SB] w4 fun e w' => ∃ CS s x n c, e = .returned (.tuple #[.agg CS, .string s, .slice x n c]) ∧ Hid (IDH (KT B5 B8 (.slice none 0 0)) w' (Ip.aT 0) CS) ∧ Hid (Below w4.heap.size w4 w')) := by
    rw [hSB.out]
    have h9 := hA4.out
    rw [hA0.out] at h9
    exact (ihfeed h9 (Ip.right_begin true (by decide) (by decide)) _ (by rw [z13a]; decide) (by rw [z13a]; decide) (fun x hx => Nat.le_trans ((Ip.feed_small (Ip.begin_small true 3 16) _).2 x hx) (by decide)) (hK4.out w4 (Nat.le_refl _))).mono fun e w' ⟨CS, x, c, g1, g2, g3, _⟩ => ⟨CS, _, x, _, c, g1, g2, g3⟩
  have HF2 : Hid (∀ W, w4.heap.size ≤ W.heap.size → IDH (KT B5 B8 (.slice none 0 0)) W B0 CB → Calls Try.prog 6 #[.agg CB, .string SA] W fun e w' => ∃ CS s x n c, e = .returned (.tuple #[.agg CS, .string s, .slice x n c]) ∧ Hid (IDH (KT B5 B8 (.slice none 0 0)) w' Ip.bT0 CS) ∧ Hid (Below W.heap.size W w')) := by
    intro W hW h9
    rw [hSA.out]
    rw [hB0.out] at h9
    exact (ihfeed h9 (Ip.right_begin false (by decide) (by decide)) _ (by rw [z13b]; decide) (by rw [z13b]; decide) (fun x hx => Nat.le_trans ((Ip.feed_small (Ip.begin_small false 3 16) _).2 x hx) (by decide)) (hK4.out W hW)).mono fun e w' ⟨CS, x, c, g1, g2, g3, _⟩ => ⟨CS, _, x, _, c, g1, g2, g3⟩
  have hldA := Rg.hid (hA4.out.load kA4.out)
  have n5 : Hid (¬ KT B5 B8 (.slice none 0 0) B5) := fun h => h.1 rfl
  have n8 : Hid (¬ KT B5 B8 (.slice none 0 0) B8) := fun h => h.2.1 rfl
  clear HB2 hB3 st4 b3 b4 hA2 hB4 k2 b12 b24 z13a z13b hB8
  go_upto_region 7 with (first | (with_reducible refine is_load (.tmp 5) 32 ?_; refine list_load (.tmp 5) 32 rfl hldA.out ?_) | (go_at_call 6; refine HF1.out.mono ?_; rintro e w5 ⟨C5, s5, x5, m5, c5, rfl, hA5, b5⟩; obtain ⟨w6, st6, kA6, o6⟩ := hA5.out.over hA4.out (kA4.out.below b5.out kA4.out.lt)) | (with_reducible refine is_store (.tmp 5) (.tmp 55) 32 ?_; refine list_store (.tmp 5) (.tmp 55) 32 rfl rfl st6.out ?_))
  have kB6 := Rg.hid ((k4.out.below b5.out k4.out.lt).same (o6.out.block B8 (by have := h58.out; omega)))
  have hB6 := Rg.hid ((hB4'.out.below b5.out).only n5.out o6.out)
  have hA6 := Rg.hid (hA5.out.only n5.out o6.out)
  have b06 := Rg.hid ((Rg.chain b04.out b5.out).trans (o6.out.bel h5w.out))
  have s46 : Hid (w4.heap.size ≤ w6.heap.size) := by show _ ≤ _; rw [o6.out.size]; exact b5.out.size
  have hldB := Rg.hid (hB6.out.load kB6.out)
  have HF := Rg.hid (HF2.out w6 s46.out hB6.out)
  have h8w : Hid (w.heap.size ≤ B8) := by show _ ≤ _; have := h5w.out; have := h58.out; omega
  clear HF1 HF2 hldA hA4 hA5 hB4' kA4 k4 b5 st6 o6 b04
  go_upto_region 8 with (first | (with_reducible refine is_load (.tmp 8) 32 ?_; refine list_load (.tmp 8) 32 rfl hldB.out ?_) | (go_at_call 6; refine HF.out.mono ?_; rintro e w7 ⟨C8, s8, x8, m8, c8, rfl, hB7, b7⟩; obtain ⟨w8, st8, kB8, o8⟩ := hB7.out.over hB6.out (kB6.out.below b7.out kB6.out.lt)) | (with_reducible refine is_store (.tmp 8) (.tmp 62) 32 ?_; refine list_store (.tmp 8) (.tmp 62) 32 rfl rfl st8.out ?_))
  have kA8 := Rg.hid ((kA6.out.below b7.out kA6.out.lt).same (o8.out.block B5 (by have := h58.out; omega)))
  have hA8 := Rg.hid ((hA6.out.below b7.out).only n8.out o8.out)
  have hB8' := Rg.hid (hB7.out.only n8.out o8.out)
  have b08 := Rg.hid ((Rg.chain b06.out b7.out).trans (o8.out.bel h8w.out))
  obtain ⟨base, hbase⟩ : ∃ b, b = w8.heap.size := ⟨_, rfl⟩
  have hT0 : Hid (TwI B5 B8 base w w8 (.slice none 0 0) 0 (Ip.aT 0) Ip.bT0) := ⟨World.ownsRow_nil _ _ _ _, ⟨_, kA8.out, hA8.out⟩, ⟨_, kB8.out, hB8'.out⟩, b08.out, Nat.le_of_eq hbase, by rw [hbase]; exact kA8.out.lt, by rw [hbase]; exact kB8.out.lt, h5w.out, h8w.out, by have := h58.out; omega⟩
  have p5 : w8.cell? ⟨B5, 1, none⟩ = some (.int .i64 2) := by rw [← Ip.aT_phase]; exact (idh_phase hA8.out kA8.out).1
  have p8 : w8.cell? ⟨B8, 1, none⟩ = some (.int .i64 2) := by rw [← Ip.tb_start.ph]; exact (idh_phase hB8'.out kB8.out).1
  clear HF hldB hB6 hA6 hB7 kB6 b7 st8 o8 kA8 kB8 hA8 hB8' b08 b06 s46 kA6 hbase hK4 n5 n8
  go_wp2
  clear p5 p8
  go_loopw [11, 12, 82] (fun v11 v12 vi wr => ∃ i t tc, i ≤ N ∧ vi = .int .i64 ((i : Nat) : Int) ∧ v11 = .slice t i tc ∧ v12 = .string ⟨(Ip.wholeN i).toArray⟩ ∧ Hid (TwI B5 B8 base w wr (.slice t i tc) i (Ip.aT i) Ip.bT0)) (fun _ _ vi _ => N - (intOf vi).toNat)
  case atStart => exact ⟨0, none, 0, Nat.zero_le _, rfl, rfl, rfl, hT0⟩
  case round =>
    obtain ⟨i, t, tc, hiN, rfl, rfl, rfl, hT⟩ := hrel
    by_cases hil : i < N
    · have i8 : i < 8 := by have := hN.out; omega
      have iz0 : (0 : Int) ≤ (i : Int) := by omega
      have iz1 : (i : Int) < (N : Int) := by omega
      obtain ⟨P, hP⟩ : ∃ P : Nat, P = 97 + i := ⟨_, rfl⟩
      obtain ⟨Q, hQ⟩ : ∃ Q : Nat, Q = 48 + i := ⟨_, rfl⟩
      have e1 : IntKind.u8.wrap (i : Int) = (i : Int) := by rw [IntKind.wrap_u8]; omega
      have e2 : IntKind.u8.wrap (97 + (i : Int)) = (P : Int) := by rw [IntKind.wrap_u8]; omega
      have e3 : IntKind.u8.wrap (48 + (i : Int)) = (Q : Int) := by rw [IntKind.wrap_u8]; omega
      obtain ⟨X, hX⟩ : ∃ X : ByteArray, X = ⟨(Ip.tx i).toArray⟩ := ⟨_, rfl⟩
      have bS := Rg.hid (Rg.al1 wr (.cells #[.int .u8 (P : Int), .int .u8 (Q : Int)] 5))
      have kS : Rg.Bk wr.heap.size [.int .u8 (P : Int), .int .u8 (Q : Int)] 5 (wr.alloc (.cells #[.int .u8 (P : Int), .int .u8 (Q : Int)] 5)) := Rg.Bk.new rfl
      have hcv : (convert 38 9 (.slice (some ⟨wr.heap.size, 0, none⟩) 2 2)).run Try.prog (wr.alloc (.cells #[.int .u8 (P : Int), .int .u8 (Q : Int)] 5)) = .ok (.string X) (wr.alloc (.cells #[.int .u8 (P : Int), .int .u8 (Q : Int)] 5)) := by
        rw [hX]
        refine run_convert_bytes_back (P := Try.prog) (wr.alloc (.cells #[.int .u8 (P : Int), .int .u8 (Q : Int)] 5)) 38 9 5 ⟨wr.heap.size, 0, none⟩ 2 (Ip.tx i) Try.underlying38 Try.underlying5 Try.underlying9 (fun j hj => ?_)
        match j, hj with
        | 0, _ => exact (kS.cell 0).trans (by show some (Value.int .u8 (P : Int)) = some (.int .u8 ((UInt8.ofNat (97 + i)).toNat : Int)); rw [UInt8.toNat_ofNat', show (97 + i) % 2 ^ 8 = P by omega])
        | 1, _ => exact (kS.cell 1).trans (by show some (Value.int .u8 (Q : Int)) = some (.int .u8 ((UInt8.ofNat (48 + i)).toNat : Int)); rw [UInt8.toNat_ofNat', show (48 + i) % 2 ^ 8 = Q by omega])
      have hTS := Rg.hid (hT.out.below bS.out)
      have hzX : Hid (X.size = 2) := by show _ = _; rw [hX, isize_bytes]; rfl
      replace hX := Rg.hid hX
      clear hT hT0 hP hQ kS bS
      go_upto_region 16 with fail
      clear hcv e1 e2 e3
      generalize World.alloc _ _ = wS at *
      obtain ⟨CA', kA, hA⟩ := hTS.out.da
      obtain ⟨Y, hY⟩ : ∃ Y, Y = Ip.sdB i := ⟨_, rfl⟩
      have HS : Hid (Calls Try.prog 7 #[.agg CA', .agg #[.int .i64 0, .string X]] wS fun e w' => ∃ CS, e = .returned (.tuple #[.agg CS, .string Y]) ∧ Hid (IDH (KT B5 B8 (.slice t i tc)) w' (Ip.aT (i + 1)) CS) ∧ Hid (Below wS.heap.size wS w')) := by
        have h9 := ihsend hA (Ip.aT_ok i).rt (Ip.pcT i) (Ip.aT_small i (by omega)).1 (hTS.out.hK wS (Nat.le_refl _))
        rw [hX.out, hY]
        exact h9
      replace kA := Rg.hid kA
      replace hA := Rg.hid hA
      have hldA := Rg.hid (hA.out.load kA.out)
      replace hY := Rg.hid hY
      go_upto_region 17 with (first | (with_reducible refine is_load (.tmp 5) 32 ?_; refine list_load (.tmp 5) 32 rfl hldA.out ?_) | (go_at_call 7; refine HS.out.mono ?_; rintro e w2 ⟨CS, rfl, hS2, b2⟩; obtain ⟨w3, st3, k3, b3, hS3⟩ := hS2.out.box) | (with_reducible refine is_store (.tmp 15) (.tmp 98) 32 ?_; refine list_store (.tmp 15) (.tmp 98) 32 rfl rfl st3.out ?_))
      obtain ⟨B15, hB15⟩ : ∃ B, B = w2.heap.size := ⟨_, rfl⟩
      rw [← hB15] at k3 ⊢
      have b23 := Rg.hid (Rg.chain b2.out b3.out)
      have hT3 := Rg.hid (hTS.out.below b23.out)
      have hld3 := Rg.hid (hS3.out.load k3.out)
      obtain ⟨w4, st4, k4, o4⟩ := hS3.out.over (hA.out.below b23.out) (kA.out.below b23.out kA.out.lt)
      have hT4 := Rg.hid (hT3.out.setA hS3.out k4.out o4.out)
      clear HS hldA hS2 st3 b2 b3 hB15 hT3 hS3 k4 o4 b23 hTS kA hA k3
      go_upto_region 18 with (first | (with_reducible refine is_load (.tmp 15) 32 ?_; refine list_load (.tmp 15) 32 rfl hld3.out ?_) | (with_reducible refine is_store (.tmp 5) (.tmp 100) 32 ?_; refine list_store (.tmp 5) (.tmp 100) 32 rfl rfl st4.out ?_))
      clear hld3 st4
      obtain ⟨g', cap', w5, hap, hT5⟩ := (hT4.out.below (Rg.al1 w4 (.cells #[.string Y] 9))).push (by omega) ⟨w4.heap.size, 0, none⟩ 1 (by rw [← hY.out]; exact (Rg.Bk.new (C := [.string Y]) (ty := 9) (W := w4) rfl : Rg.Bk w4.heap.size [.string Y] 9 (w4.alloc (.cells #[.string Y] 9))).cell 0)
      replace hap := Rg.hid hap
      replace hT5 := Rg.hid hT5
      clear hT4
      go_upto_region 19 with (at_builtin; refine Rg.wpList_append_run rfl (.tmp 101) (.tmp 103) 25 rfl _ _ rfl rfl _ _ hap.out ?_)
      clear hap
      obtain ⟨V, hV⟩ : ∃ V : ByteArray, V = ⟨(Ip.wholeN i).toArray⟩ := ⟨_, rfl⟩
      obtain ⟨V2, hV2⟩ : ∃ V2 : ByteArray, V ++ X = V2 := ⟨_, rfl⟩
      have eV2 : Hid (V2 = ⟨(Ip.wholeN (i + 1)).toArray⟩) := by show _ = _; rw [← hV2, hV, hX.out, Ip.cat_bytes, Ip.whole_succ]
      have zz : V.size + X.size ≤ 1000 := by rw [hzX.out, hV, isize_bytes, Ip.whole_len]; omega
      rw [← hV]
      clear hV
      go_wp2
      go_roundw
      case rel => exact ⟨i + 1, _, _, by omega, by go_num, rfl, by rw [eV2.out], hT5⟩
      case measure => simp [intOf]; omega
    · have hie : i = N := by omega
      subst hie
      obtain ⟨WB, hWB⟩ : ∃ W : ByteArray, W = ⟨(Ip.wholeN i).toArray⟩ := ⟨_, rfl⟩
      rw [← hWB]
      replace hWB := Rg.hid hWB
      clear hT0
      go_wp2
      go_loopw [17, 111] (fun v17 vj wr => ∃ (j wn : Nat) (d : Gp.Dr), j ≤ m ∧ vj = .int .i64 ((j : Nat) : Int) ∧ v17 = .string ⟨(Ip.wholeN wn).toArray⟩ ∧ Hid (TwI B5 B8 base w wr (.slice t i tc) i (Ip.aT i) d) ∧ Hid (Ip.TI i j wn d)) (fun _ vj _ => m - (intOf vj).toNat)
      case atStart => exact ⟨0, 0, Ip.bT0, Nat.zero_le _, rfl, rfl, hT, Ip.ti_start i⟩
      case round =>
        obtain ⟨j, wn, d, hj, rfl, rfl, hT, hI⟩ := hrel
        by_cases hjm : j < m
        · have hjl : j < l.length := by rw [← hm.out]; exact hjm
          have bwr := hT.out.bw
          obtain ⟨b1, o1, rfl, _, _, y1⟩ := (hrow.out.below bwr).cell hjl
          have cx : wr.cell? ⟨b1, o1 + j, none⟩ = some (.int .i64 l[j]) := by have := y1 0 _ rfl; rw [show intE.m = 1 from rfl, Nat.mul_one, Nat.add_zero] at this; exact this
          generalize l[j] = x at cx
          clear y1 hjl bwr
          have iz0 : (0 : Int) ≤ (j : Int) := by omega
          have iz1 : (j : Int) < (m : Int) := by omega
          have hjmH : Hid (j < m) := hjm
          have hjw : Hid (wrap64 ((j : Int) + 1) = ((j + 1 : Nat) : Int)) := by show wrap64 _ = _; have := hm60.out; unfold wrap64; omega
          obtain ⟨V, R, v1, v3, hR, r0, r1⟩ := turn_num x i hN.out.1
          obtain ⟨g, rfl, cY, hgl⟩ := hT.out.cell hR
          obtain ⟨wn2, hI2, hw1, _, hdat, hpl⟩ := hI.out.step hN.out.2 hR (by have := hm60.out; omega)
          have hok := hI.out.ok
          obtain ⟨CB, kB, hB⟩ := hT.out.db
          have hz12 := Ip.text_len2 R
          have hj60 : j ≤ 60 := by have := hm60.out; omega
          have ht1 := hok.tot
          have hb1 := hok.buf
          have hsR : (Ip.sd R) = If.text (Ip.fr R) := Ip.sd_text R (by have := hN.out.2; omega)
          rw [← hsR] at hI2 hdat hz12 hpl
          obtain ⟨Y, hY⟩ : ∃ Y, Y = Ip.sdB R := ⟨_, rfl⟩
          rw [← hY] at cY
          have HFx : ∀ (Kq : Nat → Prop) (W : World), IDH Kq W d CB → (∀ b, W.heap.size ≤ b → Kq b) → Calls Try.prog 6 #[.agg CB, .string Y] W fun e w' => IHFPost Kq W (Ip.feed d (Ip.sd R)) e w' := fun Kq W h1 h2 => by
            rw [hY]
            exact ihfeed h1 hok.rt (Ip.sd R) (by rw [hz12]; omega) (by rw [hz12]; omega) (fun x hx => Nat.le_trans ((Ip.feed_small hI.out.sm _).2 x hx) (by decide)) h2
          obtain ⟨r, hrr⟩ : ∃ r, r = Ip.feed d (Ip.sd R) := ⟨_, rfl⟩
          rw [← hrr] at HFx hI2 hdat hpl
          have HF1 := Rg.hid (HFx (KT B5 B8 (.slice (some ⟨g, 0, none⟩) i tc)) wr.drew (hB.below (Below.refl _ wr).drew) (hT.out.hK wr.drew (Nat.le_refl _)))
          have HF2 := Rg.hid (HFx (fun b => KT B5 B8 (.slice (some ⟨g, 0, none⟩) i tc) b ∧ b ≠ wr.drew.heap.size) (wr.drew.alloc (.cells #[.int .i64 0, .int .i64 0, .bool false, .int .i64 0, .int .i64 0, .int .i64 0, .int .i64 0, .int .i64 0, .int .i64 0, .slice none 0 0, .int .i64 0, .slice none 0 0, .string ⟨#[]⟩, .int .i64 0, .slice none 0 0, .int .i64 0, .int .i64 0, .slice none 0 0] 32)) (((hB.below (Below.refl _ wr).drew).low (Kq := fun b => KT B5 B8 (.slice (some ⟨g, 0, none⟩) i tc) b ∧ b ≠ wr.drew.heap.size) (fun b h1 h2 => ⟨h1, Nat.ne_of_lt h2⟩)).below (Rg.al1 _ _)) (fun b h => ⟨hT.out.hK _ (Nat.le_refl _) b (Nat.le_trans (Rg.al1 wr.drew _).size h), by have h2 : (wr.drew.alloc (.cells #[.int .i64 0, .int .i64 0, .bool false, .int .i64 0, .int .i64 0, .int .i64 0, .int .i64 0, .int .i64 0, .int .i64 0, .slice none 0 0, .int .i64 0, .slice none 0 0, .string ⟨#[]⟩, .int .i64 0, .slice none 0 0, .int .i64 0, .int .i64 0, .slice none 0 0] 32)).heap.size ≤ b := h; have h3 : wr.drew.heap.size = wr.heap.size := rfl; simp at h2; omega⟩))
          have hr : Hid True := trivial
          replace hrr := Rg.hid hrr
          replace hY := Rg.hid hY
          replace cY := Rg.hid cY
          replace hgl : Hid (g < wr.heap.size) := hgl
          replace kB := Rg.hid kB
          replace hB := Rg.hid hB
          replace hI2 := Rg.hid hI2
          replace hdat := Rg.hid hdat
          replace hpl := Rg.hid hpl
          replace hw1 := Rg.hid hw1
          replace hR := Rg.hid hR
          replace hj60 := Rg.hid hj60
          clear HFx hok hz12 ht1 hb1 hsR hI
          go_upto_region 25 with fail
          clear cx
          have u6 : ¬ i = 0 := by have := hN.out.1; omega
          go_cut [20, 21, 22] (fun v20 v21 v22 wx => Hid (IS25 B5 B8 base w (.slice (some ⟨g, 0, none⟩) i tc) i (Ip.aT i) d r v20 v21 v22 wx))
          case first =>
            refine wp_region_held_drew (S := fun (w' : World) => Rg.Bk B8 (Array.toList CB) 32 w' ∧ w'.cell? ⟨g, R, none⟩ = some (.string Y)) (by kernel_rfl) ?_ (fun hH0 => ?_)
            · exact ⟨kB.out, cY.out⟩
            refine wpAnyH_take (i := 0) (oi := { dst := some 116, op := _, type := _, pos := _, after := _, guard := _ }) (v := .agg CB) rfl (by kernel_rfl) (by kernel_rfl) (by kernel_rfl) (fun _ _ _ h => h) (Or.inl ⟨by rfl, fun w hSw => iexec_load_row _ _ rfl rfl (hB.out.load hSw.1)⟩) (by assumption) ?_
            simp only [Act.put, List.setIfInBounds_toArray, List.set_cons_zero, List.set_cons_succ]
            refine wpAnyH_take (i := 1) (oi := { dst := some 117, op := _, type := _, pos := _, after := _, guard := _ }) (v := ?_) rfl (by kernel_rfl) (by kernel_rfl) (by kernel_rfl) (fun _ _ _ h => h) (Or.inl ⟨by rfl, ?_⟩) (by assumption) ?_
            rotate_left
            · (intro w hSw; clear hSw; go_simp); (try with_reducible rfl)
            simp only [Act.put, List.setIfInBounds_toArray, List.set_cons_zero, List.set_cons_succ]
            refine wpAnyH_take (i := 2) (oi := { dst := some 118, op := _, type := _, pos := _, after := _, guard := _ }) (v := ?_) rfl (by kernel_rfl) (by kernel_rfl) (by kernel_rfl) (fun _ _ _ h => h) (Or.inl ⟨by rfl, ?_⟩) (by assumption) ?_
            rotate_left
            · (intro w hSw; clear hSw; go_simp); (try with_reducible rfl)
            simp only [Act.put, List.setIfInBounds_toArray, List.set_cons_zero, List.set_cons_succ]
            refine wpAnyH_take (i := 3) (oi := { dst := some 119, op := _, type := _, pos := _, after := _, guard := _ }) (v := ?_) rfl (by kernel_rfl) (by kernel_rfl) (by kernel_rfl) (fun _ _ _ h => h) (Or.inl ⟨by rfl, ?_⟩) (by assumption) ?_
            rotate_left
            · (intro w hSw; clear hSw; go_simp); (try with_reducible rfl)
            simp only [Act.put, List.setIfInBounds_toArray, List.set_cons_zero, List.set_cons_succ]
            refine wpAnyH_take (i := 4) (oi := { dst := some 120, op := _, type := _, pos := _, after := _, guard := _ }) (v := ?_) rfl (by kernel_rfl) (by kernel_rfl) (by kernel_rfl) (fun _ _ _ h => h) (Or.inl ⟨by rfl, ?_⟩) (by assumption) ?_
            rotate_left
            · (intro w hSw; clear hSw; go_simp); (try with_reducible rfl)
            simp only [Act.put, List.setIfInBounds_toArray, List.set_cons_zero, List.set_cons_succ]
            refine wpAnyH_take (i := 5) (oi := { dst := some 121, op := _, type := _, pos := _, after := _, guard := _ }) (v := ?_) rfl (by kernel_rfl) (by kernel_rfl) (by kernel_rfl) (fun _ _ _ h => h) (Or.inl ⟨by rfl, ?_⟩) (by assumption) ?_
            rotate_left
            · (intro w hSw; clear hSw; go_simp); (try with_reducible rfl)
            simp only [Act.put, List.setIfInBounds_toArray, List.set_cons_zero, List.set_cons_succ]
            refine wpAnyH_take (i := 6) (oi := { dst := some 122, op := _, type := _, pos := _, after := _, guard := _ }) (v := ?_) rfl (by kernel_rfl) (by kernel_rfl) (by kernel_rfl) (fun _ _ _ h => h) (Or.inl ⟨by rfl, ?_⟩) (by assumption) ?_
            rotate_left
            · (intro w hSw; clear hSw; go_simp); (try with_reducible rfl)
            simp only [Act.put, List.setIfInBounds_toArray, List.set_cons_zero, List.set_cons_succ]
            refine wpAnyH_take (i := 7) (oi := { dst := some 123, op := _, type := _, pos := _, after := _, guard := _ }) (v := ?_) rfl (by kernel_rfl) (by kernel_rfl) (by kernel_rfl) (fun _ _ _ h => h) (Or.inl ⟨by rfl, ?_⟩) (by assumption) ?_
            rotate_left
            · (intro w hSw; clear hSw; go_simp); (try with_reducible rfl)
            simp only [Act.put, List.setIfInBounds_toArray, List.set_cons_zero, List.set_cons_succ]
            refine wpAnyH_take (i := 8) (oi := { dst := some 124, op := _, type := _, pos := _, after := _, guard := _ }) (v := .string Y) rfl (by kernel_rfl) (by kernel_rfl) (by kernel_rfl) (fun _ _ _ h => h) (Or.inl ⟨by rfl, ?_⟩) (by assumption) ?_
            · intro w hSw; have cY2 := hSw.2; clear hSw; go_simp; (try with_reducible rfl)
            simp only [Act.put, List.setIfInBounds_toArray, List.set_cons_zero, List.set_cons_succ]
            refine wpAnyH_ready (rs := [9, 14]) (by kernel_rfl) (by simp) ?_
            refine AllReadyH.cons (o := { dst := some 125, op := _, type := _, pos := _, after := _, guard := _ }) rfl (fun K hK => ?_) (AllReadyH.cons (o := { dst := some 20, op := _, type := _, pos := _, after := _, guard := _ }) rfl (fun K hK => ?_) AllReadyH.nil)
            · go_simp
              go_at_call 6; refine HF1.out.mono ?_; rintro e w3 ⟨C5, x5, c5, rfl, hd3, b3, hl3⟩
              refine hK.out _ _ ?_ (fun hH14 => ?_)
              · exact ⟨kB.out.drew.below b3.out kB.out.lt, (World.cell?_of_block (a := ⟨g, R, none⟩) (b3.out.block g hgl.out)).trans cY.out⟩
              clear hK K hH0
              try simp only [Act.put, List.setIfInBounds_toArray, List.set_cons_zero, List.set_cons_succ]
              refine wpAnyH_take (i := 10) (oi := { dst := some 115, op := _, type := _, pos := _, after := _, guard := _ }) (v := ?_) rfl (by kernel_rfl) (by kernel_rfl) (by kernel_rfl) (fun _ _ _ h => h) (Or.inl ⟨by rfl, ?_⟩) (by assumption) ?_
              rotate_left
              · (intro w hSw; clear hSw; go_simp); (try with_reducible rfl)
              simp only [Act.put, List.setIfInBounds_toArray, List.set_cons_zero, List.set_cons_succ]
              refine wpAnyH_take (i := 11) (oi := { dst := some 126, op := _, type := _, pos := _, after := _, guard := _ }) (v := ?_) rfl (by kernel_rfl) (by kernel_rfl) (by kernel_rfl) (fun _ _ _ h => h) (Or.inl ⟨by rfl, ?_⟩) (by assumption) ?_
              rotate_left
              · (intro w hSw; clear hSw; go_simp); (try with_reducible rfl)
              simp only [Act.put, List.setIfInBounds_toArray, List.set_cons_zero, List.set_cons_succ]
              refine wpAnyH_take (i := 12) (oi := { dst := some 127, op := _, type := _, pos := _, after := _, guard := _ }) (v := ?_) rfl (by kernel_rfl) (by kernel_rfl) (by kernel_rfl) (fun _ _ _ h => h) (Or.inl ⟨by rfl, ?_⟩) (by assumption) ?_
              rotate_left
              · (intro w hSw; clear hSw; go_simp); (try with_reducible rfl)
              simp only [Act.put, List.setIfInBounds_toArray, List.set_cons_zero, List.set_cons_succ]
              refine wpAnyH_take (i := 13) (oi := { dst := some 128, op := _, type := _, pos := _, after := _, guard := _ }) (v := ?_) rfl (by kernel_rfl) (by kernel_rfl) (by kernel_rfl) (fun _ _ _ h => h) (Or.inl ⟨by rfl, ?_⟩) (by assumption) ?_
              rotate_left
              · (intro w hSw; clear hSw; go_simp); (try with_reducible rfl)
              simp only [Act.put, List.setIfInBounds_toArray, List.set_cons_zero, List.set_cons_succ]
              obtain ⟨w4, st4, k4, b4, hd4⟩ := hd3.out.box
              refine wpAnyH_ready (rs := [14]) (by kernel_rfl) (by simp) ?_
              refine AllReadyH.cons (o := { dst := some 20, op := _, type := _, pos := _, after := _, guard := _ }) rfl (fun K hK => ?_) AllReadyH.nil
              go_simp
              refine hK.out _ _ ?_ (fun hH19 => ?_)
              · exact ⟨(kB.out.drew.below b3.out kB.out.lt).old _, (World.cell?_of_block (a := ⟨g, R, none⟩) ((Rg.al1 w3 _).block g (Nat.lt_of_lt_of_le hgl.out b3.out.size))).trans ((World.cell?_of_block (a := ⟨g, R, none⟩) (b3.out.block g hgl.out)).trans cY.out)⟩
              clear hK K hH14
              try simp only [Act.put, List.setIfInBounds_toArray, List.set_cons_zero, List.set_cons_succ]
              refine wpAnyH_ready (rs := [15]) (by kernel_rfl) (by simp) ?_
              refine AllReadyH.cons (o := { dst := none, op := _, type := _, pos := _, after := _, guard := _ }) rfl (fun K hK => ?_) AllReadyH.nil
              refine istep_store_row (by rfl) (.tmp 20) (.tmp 126) 32 (by rfl) (by rfl) (by rfl) st4.out ?_
              refine hK.out _ _ ?_ (fun hH20 => ?_)
              · exact ⟨(kB.out.drew.below b3.out kB.out.lt).below b4.out (Nat.lt_of_lt_of_le kB.out.lt b3.out.size), (World.cell?_of_block (a := ⟨g, R, none⟩) (b4.out.block g (Nat.lt_of_lt_of_le hgl.out b3.out.size))).trans ((World.cell?_of_block (a := ⟨g, R, none⟩) (b3.out.block g hgl.out)).trans cY.out)⟩
              clear hK K hH19
              simp only [Act.put]
              refine wpAnyH_take (i := 16) (oi := { dst := some 21, op := _, type := _, pos := _, after := _, guard := _ }) (v := ?_) rfl (by kernel_rfl) (by kernel_rfl) (by kernel_rfl) (fun _ _ _ h => h) (Or.inl ⟨by rfl, ?_⟩) (by assumption) ?_
              rotate_left
              · (intro w hSw; clear hSw; go_simp); (try with_reducible rfl)
              simp only [Act.put, List.setIfInBounds_toArray, List.set_cons_zero, List.set_cons_succ]
              refine wpAnyH_take (i := 17) (oi := { dst := some 22, op := _, type := _, pos := _, after := _, guard := _ }) (v := ?_) rfl (by kernel_rfl) (by kernel_rfl) (by kernel_rfl) (fun _ _ _ h => h) (Or.inl ⟨by rfl, ?_⟩) (by assumption) ?_
              rotate_left
              · (intro w hSw; clear hSw; go_simp); (try with_reducible rfl)
              simp only [Act.put, List.setIfInBounds_toArray, List.set_cons_zero, List.set_cons_succ]
              refine wpAnyH_done (by kernel_rfl) ?_ _
              have hfe := Rg.hid (IS25.mk1 (c5 := c5) (s5 := ⟨r.2.1.toArray⟩) hT.out b3.out b4.out k4.out hd4.out hl3.out hr.out)
              clear hH20 st4 k4 b4 hd4 hd3 b3 hl3 HF1 HF2
              go_wp2_with fail
              go_meet
              exact hfe
            · go_simp
              refine hK.out _ _ ?_ (fun hH19 => ?_)
              · exact ⟨kB.out.drew.old _, (World.cell?_of_block (a := ⟨g, R, none⟩) ((Rg.al1 wr.drew _).block g hgl.out)).trans cY.out⟩
              clear hK K hH0
              try simp only [Act.put, List.setIfInBounds_toArray, List.set_cons_zero, List.set_cons_succ]
              refine wpAnyH_ready (rs := [9]) (by kernel_rfl) (by simp) ?_
              refine AllReadyH.cons (o := { dst := some 125, op := _, type := _, pos := _, after := _, guard := _ }) rfl (fun K hK => ?_) AllReadyH.nil
              go_simp
              go_at_call 6; refine HF2.out.mono ?_; rintro e w4 ⟨C5, x5, c5, rfl, hd4, b4, hl4⟩
              refine hK.out _ _ ?_ (fun hH14 => ?_)
              · exact ⟨(kB.out.drew.old _).below b4.out (kB.out.drew.old _).lt, (World.cell?_of_block (a := ⟨g, R, none⟩) (b4.out.block g (Nat.lt_of_lt_of_le hgl.out (Rg.al1 wr.drew _).size))).trans ((World.cell?_of_block (a := ⟨g, R, none⟩) ((Rg.al1 wr.drew _).block g hgl.out)).trans cY.out)⟩
              clear hK K hH19
              try simp only [Act.put, List.setIfInBounds_toArray, List.set_cons_zero, List.set_cons_succ]
              refine wpAnyH_take (i := 10) (oi := { dst := some 115, op := _, type := _, pos := _, after := _, guard := _ }) (v := ?_) rfl (by kernel_rfl) (by kernel_rfl) (by kernel_rfl) (fun _ _ _ h => h) (Or.inl ⟨by rfl, ?_⟩) (by assumption) ?_
              rotate_left
              · (intro w hSw; clear hSw; go_simp); (try with_reducible rfl)
              simp only [Act.put, List.setIfInBounds_toArray, List.set_cons_zero, List.set_cons_succ]
              refine wpAnyH_take (i := 11) (oi := { dst := some 126, op := _, type := _, pos := _, after := _, guard := _ }) (v := ?_) rfl (by kernel_rfl) (by kernel_rfl) (by kernel_rfl) (fun _ _ _ h => h) (Or.inl ⟨by rfl, ?_⟩) (by assumption) ?_
              rotate_left
              · (intro w hSw; clear hSw; go_simp); (try with_reducible rfl)
              simp only [Act.put, List.setIfInBounds_toArray, List.set_cons_zero, List.set_cons_succ]
              refine wpAnyH_take (i := 12) (oi := { dst := some 127, op := _, type := _, pos := _, after := _, guard := _ }) (v := ?_) rfl (by kernel_rfl) (by kernel_rfl) (by kernel_rfl) (fun _ _ _ h => h) (Or.inl ⟨by rfl, ?_⟩) (by assumption) ?_
              rotate_left
              · (intro w hSw; clear hSw; go_simp); (try with_reducible rfl)
              simp only [Act.put, List.setIfInBounds_toArray, List.set_cons_zero, List.set_cons_succ]
              refine wpAnyH_take (i := 13) (oi := { dst := some 128, op := _, type := _, pos := _, after := _, guard := _ }) (v := ?_) rfl (by kernel_rfl) (by kernel_rfl) (by kernel_rfl) (fun _ _ _ h => h) (Or.inl ⟨by rfl, ?_⟩) (by assumption) ?_
              rotate_left
              · (intro w hSw; clear hSw; go_simp); (try with_reducible rfl)
              simp only [Act.put, List.setIfInBounds_toArray, List.set_cons_zero, List.set_cons_succ]
              obtain ⟨w5, st5, k5, o5⟩ := hd4.out.over (izDH' (fun _ => True) w4) ((Rg.Bk.new (C := [.int .i64 0, .int .i64 0, .bool false, .int .i64 0, .int .i64 0, .int .i64 0, .int .i64 0, .int .i64 0, .int .i64 0, .slice none 0 0, .int .i64 0, .slice none 0 0, .string ⟨#[]⟩, .int .i64 0, .slice none 0 0, .int .i64 0, .int .i64 0, .slice none 0 0]) (ty := 32) (W := wr.drew) rfl).below b4.out (by simp))
              refine wpAnyH_ready (rs := [15]) (by kernel_rfl) (by simp) ?_
              refine AllReadyH.cons (o := { dst := none, op := _, type := _, pos := _, after := _, guard := _ }) rfl (fun K hK => ?_) AllReadyH.nil
              refine istep_store_row (by rfl) (.tmp 20) (.tmp 126) 32 (by rfl) (by rfl) (by rfl) st5.out ?_
              refine hK.out _ _ ?_ (fun hH20 => ?_)
              · exact ⟨((kB.out.drew.old _).below b4.out (kB.out.drew.old _).lt).same (o5.out.block B8 (Nat.ne_of_lt kB.out.lt)), (World.cell?_of_block (a := ⟨g, R, none⟩) (o5.out.block g (Nat.ne_of_lt hgl.out))).trans ((World.cell?_of_block (a := ⟨g, R, none⟩) (b4.out.block g (Nat.lt_of_lt_of_le hgl.out (Rg.al1 wr.drew _).size))).trans ((World.cell?_of_block (a := ⟨g, R, none⟩) ((Rg.al1 wr.drew _).block g hgl.out)).trans cY.out))⟩
              clear hK K hH14
              simp only [Act.put]
              refine wpAnyH_take (i := 16) (oi := { dst := some 21, op := _, type := _, pos := _, after := _, guard := _ }) (v := ?_) rfl (by kernel_rfl) (by kernel_rfl) (by kernel_rfl) (fun _ _ _ h => h) (Or.inl ⟨by rfl, ?_⟩) (by assumption) ?_
              rotate_left
              · (intro w hSw; clear hSw; go_simp); (try with_reducible rfl)
              simp only [Act.put, List.setIfInBounds_toArray, List.set_cons_zero, List.set_cons_succ]
              refine wpAnyH_take (i := 17) (oi := { dst := some 22, op := _, type := _, pos := _, after := _, guard := _ }) (v := ?_) rfl (by kernel_rfl) (by kernel_rfl) (by kernel_rfl) (fun _ _ _ h => h) (Or.inl ⟨by rfl, ?_⟩) (by assumption) ?_
              rotate_left
              · (intro w hSw; clear hSw; go_simp); (try with_reducible rfl)
              simp only [Act.put, List.setIfInBounds_toArray, List.set_cons_zero, List.set_cons_succ]
              refine wpAnyH_done (by kernel_rfl) ?_ _
              have hfe := Rg.hid (IS25.mk2 (c5 := c5) (s5 := ⟨r.2.1.toArray⟩) hT.out b4.out o5.out k5.out hd4.out hl4.out hr.out)
              clear hH20 st5 k5 o5 hd4 b4 hl4 HF1 HF2
              go_wp2_with fail
              go_meet
              exact hfe
          case rest =>
            obtain ⟨B20, C5, x5, c5, s5, rfl, rfl, rfl, n20, k20, hd20, hT6, hl6⟩ := hcut.out
            clear HF1 HF2 hcut hT kB hB cY hgl v1 v3 r0 r1
            have hld := Rg.hid (hd20.out.load k20.out)
            obtain ⟨CB2, kB2, hB2⟩ := hT6.out.db
            obtain ⟨w6, st6, k6, o6⟩ := hd20.out.over hB2 kB2
            have hT7 := Rg.hid (hT6.out.setB hd20.out k6.out o6.out)
            have hr6 := Rg.hid (iarow_only hl6.out.1 hl6.out.2 hT6.out.nB o6.out)
            obtain ⟨lp, hlp⟩ : ∃ lp, lp = Ip.join r.2.2 := ⟨_, rfl⟩
            rw [← hlp] at hr6 hdat ⊢
            obtain ⟨ln, hln⟩ : ∃ ln, ln = lp.length := ⟨_, rfl⟩
            rw [← hln]
            have hdw : Hid (Ip.wholeN wn ++ Ip.dat lp = Ip.wholeN wn2) := hdat.out
            have hdl : Hid ((Ip.wholeN wn).length + (Ip.dat lp).length ≤ 1000) := by
              show _ ≤ _
              rw [← List.length_append, hdw.out, Ip.whole_len]
              have := hI2.out.le
              have := hN.out
              omega
            have hl1 : Hid (ln ≤ 100000) := by
              show _ ≤ _
              rw [hln, hlp]
              exact Nat.le_trans hpl.out (by decide)
            replace hln := Rg.hid hln
            replace hlp := Rg.hid hlp
            clear hT6 hd20 k20 n20 hl6 hB2 kB2 k6 o6 hdat
            go_upto_region 27 with (first | (with_reducible refine is_load (.tmp 20) 32 ?_; refine list_load (.tmp 20) 32 rfl hld.out ?_) | (with_reducible refine is_store (.tmp 8) (.tmp 129) 32 ?_; refine list_store (.tmp 8) (.tmp 129) 32 rfl rfl st6.out ?_))
            clear hld st6
            go_wp2
            go_loopw [17, 132] (fun vc vq wx => ∃ q : Nat, q ≤ ln ∧ vq = .int .i64 q ∧ vc = .string ⟨(Ip.wholeN wn ++ Ip.dat (lp.take q)).toArray⟩ ∧ Hid (Below w6.heap.size w6 wx)) (fun _ vq _ => ln - (intOf vq).toNat)
            case atStart => exact ⟨0, Nat.zero_le _, rfl, by simp [Ip.dat], Below.refl _ _⟩
            case round =>
              obtain ⟨q, hq, rfl, rfl, bx⟩ := hrel
              by_cases hql : q < ln
              · have hql2 : q < lp.length := by rw [← hln.out]; exact hql
                obtain ⟨b1, o1, rfl, _, _, y1⟩ := (hr6.out.below bx.out).cell hql2
                replace y1 := pc_at y1
                have hz1 := Ip.dat_len lp q hql2
                have hcs := Ip.dat_step lp q hql2 (Ip.wholeN wn)
                generalize lp[q] = x at y1 hz1 hcs
                obtain ⟨xc, xd⟩ := x
                obtain ⟨c0, c1⟩ := y1
                have em : pcE.m = 2 := rfl
                rw [em] at c0 c1
                dsimp only at c0 c1 hz1 hcs
                have iz0 : (0 : Int) ≤ (q : Int) := by omega
                have iz1 : (q : Int) < (ln : Int) := by omega
                have hw1 : Hid (wrap64 ((q : Int) + 1) = ((q + 1 : Nat) : Int)) := by show wrap64 _ = _; have := hl1.out; unfold wrap64; omega
                obtain ⟨q1, hq1⟩ : ∃ q1, q1 = q + 1 := ⟨_, rfl⟩
                rw [← hq1] at hw1 hcs
                replace hq1 := Rg.hid hq1
                have hz2 : (⟨(Ip.wholeN wn ++ Ip.dat (lp.take q)).toArray⟩ : ByteArray).size + xd.size ≤ 100000 := by
                  have h1 : (⟨(Ip.wholeN wn ++ Ip.dat (lp.take q)).toArray⟩ : ByteArray).size = (Ip.wholeN wn ++ Ip.dat (lp.take q)).length := by simp [ByteArray.size]
                  have h2 := hdl.out
                  rw [h1, List.length_append]
                  omega
                replace hcs := Rg.hid hcs
                clear hz1 hql2 em
                generalize (⟨(Ip.wholeN wn ++ Ip.dat (lp.take q)).toArray⟩ : ByteArray) = A1 at *
                go_wp2
                go_roundw
                case rel => exact ⟨q1, by have := hq1.out; omega, by rw [hw1.out], by rw [hcs.out], Rg.chain bx.out (Rg.al1 _ _)⟩
                case measure => rw [hw1.out]; have := hq1.out; simp [intOf]; omega
              · have hqe : q = ln := by omega
                have htk : lp.take q = lp := by rw [hqe, hln.out]; exact List.take_length
                rw [htk, hdw.out]
                subst hqe
                have hfr := Rg.hid (fun W => ifront_any wn2 i hI2.out.le W)
                rw [← hWB.out] at hfr
                have hT8 := Rg.hid (hT7.out.below bx.out)
                obtain ⟨V2, hV2⟩ : ∃ V2 : ByteArray, V2 = ⟨(Ip.wholeN wn2).toArray⟩ := ⟨_, rfl⟩
                rw [← hV2] at hfr ⊢
                replace hV2 := Rg.hid hV2
                clear hT7 bx hr6
                go_wp2_with (go_at_call 8; refine (hfr.out _).mono ?_; rintro e wf ⟨rfl, hwf⟩; obtain rfl := hwf.symm)
                go_roundw
                case rel => exact ⟨j + 1, wn2, r.1, by have := hjmH.out; omega, by rw [hjw.out], by rw [hV2.out], hT8, hI2⟩
                case measure => rw [hjw.out]; have := hjmH.out; simp [intOf]; omega
        · have hje : j = m := by omega
          subst hje
          clear hm hrow
          go_wp2
          go_loopw [17, 148] (fun v17 vj wr => ∃ (k wn : Nat) (d : Gp.Dr), k ≤ i ∧ vj = .int .i64 ((k : Nat) : Int) ∧ v17 = .string ⟨(Ip.wholeN wn).toArray⟩ ∧ Hid (TwI B5 B8 base w wr (.slice t i tc) i (Ip.aT i) d) ∧ Hid (Ip.TI i (j + k) wn d) ∧ Hid (k ≤ wn)) (fun _ vj _ => i - (intOf vj).toNat)
          case atStart => exact ⟨0, wn, d, Nat.zero_le _, rfl, rfl, hT, hI, Nat.zero_le _⟩
          case round =>
            clear hT hI
            obtain ⟨k, wn, d, hk, rfl, rfl, hT, hI, hkw⟩ := hrel
            by_cases hki : k < i
            · have iz0 : (0 : Int) ≤ (k : Int) := by omega
              have iz1 : (k : Int) < (i : Int) := by omega
              have hkiH : Hid (k < i) := hki
              obtain ⟨g, rfl, cY, hgl⟩ := hT.out.cell hki
              obtain ⟨wn2, hI2, hw1, hw2, hdat, hpl⟩ := hI.out.step hN.out.2 hki (by have := hm60.out; have := hN.out.2; omega)
              have hok := hI.out.ok
              obtain ⟨CB, kB, hB⟩ := hT.out.db
              have hz12 := Ip.text_len2 k
              have hj60 : j + k ≤ 70 := by have := hm60.out; have := hN.out.2; omega
              have ht1 := hok.tot
              have hb1 := hok.buf
              have hsR : (Ip.sd k) = If.text (Ip.fr k) := Ip.sd_text k (by have := hN.out.2; omega)
              rw [← hsR] at hI2 hdat hz12 hpl
              obtain ⟨Y, hY⟩ : ∃ Y, Y = Ip.sdB k := ⟨_, rfl⟩
              rw [← hY] at cY
              have HF : Calls Try.prog 6 #[.agg CB, .string Y] wr fun e w' => IHFPost (KT B5 B8 (.slice (some ⟨g, 0, none⟩) i tc)) wr (Ip.feed d (Ip.sd k)) e w' := by
                rw [hY]
                exact ihfeed hB hok.rt (Ip.sd k) (by rw [hz12]; omega) (by rw [hz12]; omega) (fun x hx => Nat.le_trans ((Ip.feed_small hI.out.sm _).2 x hx) (by decide)) (hT.out.hK wr (Nat.le_refl _))
              obtain ⟨r, hrr⟩ : ∃ r, r = Ip.feed d (Ip.sd k) := ⟨_, rfl⟩
              rw [← hrr] at HF hI2 hdat hpl
              replace HF := Rg.hid HF
              have hkw2 : Hid (k + 1 ≤ wn2) := turn_next hkw.out hw1 hw2
              have hkw6 : Hid (wrap64 ((k : Int) + 1) = ((k + 1 : Nat) : Int)) := by show wrap64 _ = _; have := hN.out.2; unfold wrap64; omega
              have hldB := Rg.hid (hB.load kB)
              replace hI2 := Rg.hid hI2
              replace hdat := Rg.hid hdat
              replace hpl := Rg.hid hpl
              replace kB := Rg.hid kB
              replace hB := Rg.hid hB
              clear hok hz12 ht1 hb1 hsR hI hrr hY hw1 hw2 hj60 hkw hgl
              go_upto_region 38 with fail
              clear cY
              go_upto_region 39 with (first | (with_reducible refine is_load (.tmp 8) 32 ?_; refine list_load (.tmp 8) 32 rfl hldB.out ?_) | (go_at_call 6; refine HF.out.mono ?_; rintro e w3 ⟨C5, x5, c5, rfl, hd3, b3, hl3⟩; obtain ⟨w4, st4, k4, b4, hd4⟩ := hd3.out.box) | (with_reducible refine is_store (.tmp 27) (.tmp 156) 32 ?_; refine list_store (.tmp 27) (.tmp 156) 32 rfl rfl st4.out ?_))
              obtain ⟨B27, hB27⟩ : ∃ B, B = w3.heap.size := ⟨_, rfl⟩
              rw [← hB27] at k4 ⊢
              have b34 := Rg.hid (Rg.chain b3.out b4.out)
              have hT6 := Rg.hid (hT.out.below b34.out)
              have hl6 : Hid (ERow pcE w4 x5 (Ip.join r.2.2) ∧ iKRow (KT B5 B8 (.slice (some ⟨g, 0, none⟩) i tc)) x5 (Ip.join r.2.2)) := ⟨hl3.out.1.below b4.out, hl3.out.2⟩
              have hld := Rg.hid (hd4.out.load k4.out)
              obtain ⟨w6, st6, k6, o6⟩ := hd4.out.over (hB.out.below b34.out) (kB.out.below b34.out kB.out.lt)
              have hT7 := Rg.hid (hT6.out.setB hd4.out k6.out o6.out)
              have hr6 := Rg.hid (iarow_only hl6.out.1 hl6.out.2 hT6.out.nB o6.out)
              obtain ⟨lp, hlp⟩ : ∃ lp, lp = Ip.join r.2.2 := ⟨_, rfl⟩
              rw [← hlp] at hr6 hdat hpl ⊢
              obtain ⟨ln, hln⟩ : ∃ ln, ln = lp.length := ⟨_, rfl⟩
              rw [← hln]
              have hdw : Hid (Ip.wholeN wn ++ Ip.dat lp = Ip.wholeN wn2) := hdat.out
              have hdl : Hid ((Ip.wholeN wn).length + (Ip.dat lp).length ≤ 1000) := by
                show _ ≤ _
                rw [← List.length_append, hdw.out, Ip.whole_len]
                have := hI2.out.le
                have := hN.out
                omega
              have hl1 : Hid (ln ≤ 100000) := by
                show _ ≤ _
                rw [hln]
                exact Nat.le_trans hpl.out (by decide)
              replace hln := Rg.hid hln
              replace hlp := Rg.hid hlp
              clear HF hldB hd3 st4 b3 b4 hB27 hl3 b34 hT hT6 hl6 hd4 k4 k6 o6 kB hB hdat hpl
              go_upto_region 40 with (first | (with_reducible refine is_load (.tmp 27) 32 ?_; refine list_load (.tmp 27) 32 rfl hld.out ?_) | (with_reducible refine is_store (.tmp 8) (.tmp 159) 32 ?_; refine list_store (.tmp 8) (.tmp 159) 32 rfl rfl st6.out ?_))
              clear hld st6
              go_wp2
              go_loopw [17, 162] (fun vc vq wx => ∃ q : Nat, q ≤ ln ∧ vq = .int .i64 q ∧ vc = .string ⟨(Ip.wholeN wn ++ Ip.dat (lp.take q)).toArray⟩ ∧ Hid (Below w6.heap.size w6 wx)) (fun _ vq _ => ln - (intOf vq).toNat)
              case atStart => exact ⟨0, Nat.zero_le _, rfl, by simp [Ip.dat], Below.refl _ _⟩
              case round =>
                obtain ⟨q, hq, rfl, rfl, bx⟩ := hrel
                by_cases hql : q < ln
                · have hql2 : q < lp.length := by rw [← hln.out]; exact hql
                  obtain ⟨b1, o1, rfl, _, _, y1⟩ := (hr6.out.below bx.out).cell hql2
                  replace y1 := pc_at y1
                  have hz1 := Ip.dat_len lp q hql2
                  have hcs := Ip.dat_step lp q hql2 (Ip.wholeN wn)
                  generalize lp[q] = x at y1 hz1 hcs
                  obtain ⟨xc, xd⟩ := x
                  obtain ⟨c0, c1⟩ := y1
                  have em : pcE.m = 2 := rfl
                  rw [em] at c0 c1
                  dsimp only at c0 c1 hz1 hcs
                  have iz0 : (0 : Int) ≤ (q : Int) := by omega
                  have iz1 : (q : Int) < (ln : Int) := by omega
                  have hw1 : Hid (wrap64 ((q : Int) + 1) = ((q + 1 : Nat) : Int)) := by show wrap64 _ = _; have := hl1.out; unfold wrap64; omega
                  obtain ⟨q1, hq1⟩ : ∃ q1, q1 = q + 1 := ⟨_, rfl⟩
                  rw [← hq1] at hw1 hcs
                  replace hq1 := Rg.hid hq1
                  have hz2 : (⟨(Ip.wholeN wn ++ Ip.dat (lp.take q)).toArray⟩ : ByteArray).size + xd.size ≤ 100000 := by
                    have h1 : (⟨(Ip.wholeN wn ++ Ip.dat (lp.take q)).toArray⟩ : ByteArray).size = (Ip.wholeN wn ++ Ip.dat (lp.take q)).length := by simp [ByteArray.size]
                    have h2 := hdl.out
                    rw [h1, List.length_append]
                    omega
                  replace hcs := Rg.hid hcs
                  clear hz1 hql2 em
                  generalize (⟨(Ip.wholeN wn ++ Ip.dat (lp.take q)).toArray⟩ : ByteArray) = A1 at *
                  go_wp2
                  go_roundw
                  case rel => exact ⟨q1, by have := hq1.out; omega, by rw [hw1.out], by rw [hcs.out], Rg.chain bx.out (Rg.al1 _ _)⟩
                  case measure => rw [hw1.out]; have := hq1.out; simp [intOf]; omega
                · have hqe : q = ln := by omega
                  have htk : lp.take q = lp := by rw [hqe, hln.out]; exact List.take_length
                  rw [htk, hdw.out]
                  subst hqe
                  have hT8 := Rg.hid (hT7.out.below bx.out)
                  obtain ⟨V2, hV2⟩ : ∃ V2 : ByteArray, V2 = ⟨(Ip.wholeN wn2).toArray⟩ := ⟨_, rfl⟩
                  rw [← hV2]
                  replace hV2 := Rg.hid hV2
                  clear hT7 bx hr6
                  go_wp2
                  go_roundw
                  case rel => exact ⟨k + 1, wn2, r.1, by have := hkiH.out; omega, by rw [hkw6.out], by rw [hV2.out], hT8, hI2, hkw2⟩
                  case measure => rw [hkw6.out]; have := hkiH.out; simp [intOf]; omega
            · have hke : k = i := by omega
              have hwi : wn = i := by have := hkw.out; have := hI.out.le; omega
              subst hwi
              subst hke
              obtain ⟨f1, f2⟩ := hI.out.done
              obtain ⟨CB, kB, hB⟩ := hT.out.db
              obtain ⟨⟨xa, xc, c11⟩, c10⟩ := idh_end hB kB
              rw [f1] at c11
              rw [f2] at c10
              obtain ⟨i1, hi1⟩ : ∃ i1 : Nat, i1 = k + 1 := ⟨_, rfl⟩
              have hw1 : wrap64 ((k : Int) + 1) = (i1 : Int) := by have := hN.out.2; unfold wrap64; omega
              rw [show (k : Int) + 1 = (i1 : Int) by omega] at c10
              rw [← hWB.out]
              have hAw := Rg.hid (HA.out wr)
              have hbw := Rg.hid hT.out.bw
              clear hi1 hT hI kB hB f1 f2 hkw
              go_wp2_with (go_at_call 4; refine hAw.out.mono ?_; rintro e w9 ⟨rfl, b9⟩)
              go_ret
              exact ⟨rfl, Rg.chain hbw.out b9⟩
set_option maxHeartbeats 1000000 in
set_option maxRecDepth 100000 in
theorem iturns_long (n0 : Int) (K m cap : Nat) (a : Option Addr) (w : World) (U : Nat) (u0 : IntKind.u64.wrap n0 = (U : Int)) (u1 : (U : Int).tmod 8 = (K : Int)) (u2 : IntKind.i64.wrap (K : Int) = (K : Int)) (dm : decide ((60 : Int) < (m : Int)) = true) (HA : Hid (Calls Try.prog 4 #[] w fun e w' => e = .returned (.bool true) ∧ Below w.heap.size w w')) :
    Calls Try.prog 3 #[.int .i64 n0, .slice a m cap] w fun e w' => e = .returned (.bool true) ∧ Below w.heap.size w w' := by
  go_enter Try.func3, Try.ntmps3
  go_wp2_with (go_at_call 4; refine HA.out.mono ?_; rintro e w9 ⟨rfl, b9⟩)
  go_ret
  exact ⟨rfl, b9⟩
theorem turn_n (x : Int) : ∃ U K : Nat, IntKind.u64.wrap x = (U : Int) ∧ (U : Int).tmod 8 = (K : Int) ∧ K < 8 := by
  obtain ⟨U, hU⟩ : ∃ U : Nat, IntKind.u64.wrap x = (U : Int) := ⟨(IntKind.u64.wrap x).toNat, by rw [IntKind.wrap_u64]; omega⟩
  refine ⟨U, U % 8, hU, ?_, by omega⟩
  rw [Int.tmod_eq_emod_of_nonneg (by omega)]; omega
theorem iturns_walk (n0 : Int) (a : Option Addr) (cap : Nat) (l : List Int) (w : World) (row : ERow intE w a l) : Calls Try.prog 3 #[.int .i64 n0, .slice a l.length cap] w fun e w' => e = .returned (.bool true) ∧ Below w.heap.size w w' := by
  obtain ⟨U, K, u0, u1, hK⟩ := turn_n n0
  have u2 : IntKind.i64.wrap (K : Int) = (K : Int) := by rw [IntKind.wrap_i64]; omega
  by_cases hn : 60 < l.length
  · exact iturns_long n0 K l.length cap a w U u0 u1 u2 (by simp; omega) (iawake_any w)
  · exact iturns_core n0 U K (K + 1) l.length cap l a w _ _ _ _ u0 u1 u2 (by unfold wrap64; omega) (by rw [IntKind.wrap_u64]; omega) (by omega) (by show _ ∧ _; omega) rfl (by simp; omega) (by show _ ≤ _; omega) row rfl rfl rfl rfl (fun W => ihbegin (fun _ => True) true 3 16 W (by decide) (by decide)) (fun W => ihbegin (fun _ => True) false 3 16 W (by decide) (by decide)) (fun W => iawake_any W)
end Go.Proofs.Ytlclfkogbfigbaa
