/-
  Walks of layer 16: a number in two bytes and in one; an end says sync, and a text. Walks of layer 16: isOpen, mayTry, cut, mayRepeat, takeClose. Walks of layer 14: placeOf, Find; the document's right, Find.
-/
import Derived.Test.YtlclfkogbfigbaaCuAJ
import Derived.Test.YtlclfkogbfigbaaCuAI
import Derived.BigQuiet
import Derived.Test.YtlclfkogbfigbaaCuAD
import Derived.Deep.RegionHeld3
import Derived.Deep.DeepCutAuto
namespace Go.Proofs.Ytlclfkogbfigbaa
open Go.RowKit
theorem isSize2 (w : World) : Calls Try.prog 34 #[.int .i64 2] w fun e w' => e = .returned (.bool true) ∧ w' = w := by
  go_enter Try.func34, Try.ntmps34
  go_wp2
  go_ret
  exact ⟨rfl, rfl⟩
theorem isSize1 (w : World) : Calls Try.prog 34 #[.int .i64 1] w fun e w' => e = .returned (.bool true) ∧ w' = w := by
  go_enter Try.func34, Try.ntmps34
  go_wp2
  go_ret
  exact ⟨rfl, rfl⟩
theorem Ip.cat_bytes (a b : List UInt8) : (⟨a.toArray⟩ : ByteArray) ++ (⟨b.toArray⟩ : ByteArray) = ⟨(a ++ b).toArray⟩ := by
  apply ByteArray.ext
  apply Array.ext'
  simp
theorem byte_mod (q : Nat) : UInt8.ofNat (q % 256) = UInt8.ofNat q := by
  apply UInt8.toNat_inj.1
  rw [UInt8.toNat_ofNat', UInt8.toNat_ofNat']
  omega
theorem If.rights2 (q : Nat) : Oct.rights 2 (Oct.putF q) = [UInt8.ofNat (q / 256), UInt8.ofNat (q % 256)] := by
  show [Oct.putF q 1, Oct.putF q 0] = _
  unfold Oct.putF
  rw [Nat.pow_zero, Nat.div_one, Nat.pow_one, byte_mod]
theorem If.rights1 (q : Nat) : Oct.rights 1 (Oct.putF q) = [UInt8.ofNat q] := by
  show [Oct.putF q 0] = _
  unfold Oct.putF
  rw [Nat.pow_zero, Nat.div_one]
set_option maxHeartbeats 400000 in
theorem put2_any (q : Nat) (hq : q < 65536) (w : World) :
    Calls Try.prog 22 #[.int .i64 q, .int .i64 2] w fun e w' => e = .returned (.tuple #[.string ⟨([UInt8.ofNat (q / 256), UInt8.ofNat (q % 256)] : List UInt8).toArray⟩, .int .i64 0]) ∧ Below w.heap.size w w' := by
  have HA : Hid (∀ W, Calls Try.prog 34 #[.int .i64 2] W fun e w' => e = .returned (.bool true) ∧ w' = W) := fun W => isSize2 W
  have hr : Hid (([UInt8.ofNat (q / 256), UInt8.ofNat (q % 256)] : List UInt8) = Oct.rights 2 (Oct.putF q)) := (If.rights2 q).symm
  have d0 : decide ((q : Int) < 0) = false := by simp
  have d1 : ((q : Int) / 65536 != 0) = false := by rw [bne_eq_false_iff_eq]; omega
  have hlt : (q : Int) < 65536 := by omega
  go_enter Try.func22, Try.ntmps22
  go_wp2_with (go_at_call 34; refine (HA.out _).mono ?_; rintro e w' ⟨rfl, rfl⟩)
  go_loopw [21] (fun i wr => ∃ k : Nat, k ≤ 2 ∧ i = .int .i64 k ∧ wr.heap[w'.heap.size]? = some (.cells (Oct.cells (Oct.fill 4 2 (Oct.putF q) k)) 80 (0, 0)) ∧ Below w'.heap.size w' wr) (fun i _ => 2 - (intOf i).toNat)
  case atStart =>
    exact ⟨0, Nat.zero_le _, rfl, (MapKept.heap_alloc w' _).1.trans (by rw [Oct.fill_zero]; rfl), (Below.refl _ _).alloc (Nat.le_refl _) _⟩
  case round =>
    obtain ⟨k, hk, rfl, hb, hbl⟩ := hrel
    have hB : Hid (wr.heap[w'.heap.size]? = some (.cells (Oct.cells (Oct.fill 4 2 (Oct.putF q) k)) 80 (0, 0))) := hb
    clear hb
    have hcase : k = 0 ∨ k = 1 ∨ k = 2 := by omega
    rcases hcase with rfl | rfl | rfl
    · obtain ⟨v, hc⟩ : ∃ v, wr.cell? ⟨w'.heap.size, 1, none⟩ = some v := ⟨_, (Lib.cell_of_heap hB.out 1).trans (Oct.cells_at _ _ (by rw [Oct.fill_length]; omega))⟩
      have hf : wr.frozen? ⟨w'.heap.size, 1, none⟩ = false := Lib.frozen_of_heap hB.out _
      go_wp2
      refine ⟨⟨1, by omega, rfl, (Lib.heap_setCell_same hB.out _).trans ?_, hbl.setCell (p := ⟨w'.heap.size, 1, none⟩) (Nat.le_refl _) _⟩, by simp [intOf]⟩
      exact congrArg (fun c => some (Obj.cells c 80 (0, 0))) (Oct.put_step 4 q 2 0 (by omega) _ (by omega))
    · obtain ⟨v, hc⟩ : ∃ v, wr.cell? ⟨w'.heap.size, 0, none⟩ = some v := ⟨_, (Lib.cell_of_heap hB.out 0).trans (Oct.cells_at _ _ (by rw [Oct.fill_length]; omega))⟩
      have hf : wr.frozen? ⟨w'.heap.size, 0, none⟩ = false := Lib.frozen_of_heap hB.out _
      go_wp2
      refine ⟨⟨2, by omega, rfl, (Lib.heap_setCell_same hB.out _).trans ?_, hbl.setCell (p := ⟨w'.heap.size, 0, none⟩) (Nat.le_refl _) _⟩, by simp [intOf]⟩
      exact congrArg (fun c => some (Obj.cells c 80 (0, 0))) (Oct.put_step 4 q 2 1 (by omega) _ (by omega))
    · have hcv := run_convert_bytes_back (P := Try.prog) wr 38 9 5 ⟨w'.heap.size, 0, none⟩ 4 (Oct.rights 2 (Oct.putF q)) Try.underlying38 Try.underlying5 Try.underlying9 (Oct.put_cells hB.out (by omega))
      rw [Oct.rights_length] at hcv
      go_wp2
      go_ret2
      exact ⟨ret_se (by rw [hr.out]) rfl, hbl⟩
set_option maxHeartbeats 400000 in
theorem put1_any (q : Nat) (hq : q < 256) (w : World) :
    Calls Try.prog 22 #[.int .i64 q, .int .i64 1] w fun e w' => e = .returned (.tuple #[.string ⟨([UInt8.ofNat q] : List UInt8).toArray⟩, .int .i64 0]) ∧ Below w.heap.size w w' := by
  have HA : Hid (∀ W, Calls Try.prog 34 #[.int .i64 1] W fun e w' => e = .returned (.bool true) ∧ w' = W) := fun W => isSize1 W
  have hr : Hid (([UInt8.ofNat q] : List UInt8) = Oct.rights 1 (Oct.putF q)) := (If.rights1 q).symm
  have d0 : decide ((q : Int) < 0) = false := by simp
  have d1 : ((q : Int) / 256 != 0) = false := by rw [bne_eq_false_iff_eq]; omega
  have hlt : (q : Int) < 256 := by omega
  go_enter Try.func22, Try.ntmps22
  go_wp2_with (go_at_call 34; refine (HA.out _).mono ?_; rintro e w' ⟨rfl, rfl⟩)
  go_loopw [21] (fun i wr => ∃ k : Nat, k ≤ 1 ∧ i = .int .i64 k ∧ wr.heap[w'.heap.size]? = some (.cells (Oct.cells (Oct.fill 4 1 (Oct.putF q) k)) 80 (0, 0)) ∧ Below w'.heap.size w' wr) (fun i _ => 1 - (intOf i).toNat)
  case atStart =>
    exact ⟨0, Nat.zero_le _, rfl, (MapKept.heap_alloc w' _).1.trans (by rw [Oct.fill_zero]; rfl), (Below.refl _ _).alloc (Nat.le_refl _) _⟩
  case round =>
    obtain ⟨k, hk, rfl, hb, hbl⟩ := hrel
    have hB : Hid (wr.heap[w'.heap.size]? = some (.cells (Oct.cells (Oct.fill 4 1 (Oct.putF q) k)) 80 (0, 0))) := hb
    clear hb
    have hcase : k = 0 ∨ k = 1 := by omega
    rcases hcase with rfl | rfl
    · obtain ⟨v, hc⟩ : ∃ v, wr.cell? ⟨w'.heap.size, 0, none⟩ = some v := ⟨_, (Lib.cell_of_heap hB.out 0).trans (Oct.cells_at _ _ (by rw [Oct.fill_length]; omega))⟩
      have hf : wr.frozen? ⟨w'.heap.size, 0, none⟩ = false := Lib.frozen_of_heap hB.out _
      go_wp2
      refine ⟨⟨1, by omega, rfl, (Lib.heap_setCell_same hB.out _).trans ?_, hbl.setCell (p := ⟨w'.heap.size, 0, none⟩) (Nat.le_refl _) _⟩, by simp [intOf]⟩
      exact congrArg (fun c => some (Obj.cells c 80 (0, 0))) (Oct.put_step 4 q 1 0 (by omega) _ (by omega))
    · have hcv := run_convert_bytes_back (P := Try.prog) wr 38 9 5 ⟨w'.heap.size, 0, none⟩ 4 (Oct.rights 1 (Oct.putF q)) Try.underlying38 Try.underlying5 Try.underlying9 (Oct.put_cells hB.out (by omega))
      rw [Oct.rights_length] at hcv
      go_wp2
      go_ret2
      exact ⟨ret_se (by rw [hr.out]) rfl, hbl⟩
set_option maxHeartbeats 1000000 in
set_option maxRecDepth 100000 in
theorem isaySync_go (eb : Nat) (z r : Int) (A B AB : ByteArray) (w : World) (Post : Ending → World → Prop) (c4 : w.cell? ⟨eb, 4, none⟩ = some (.int .i64 z)) (c5 : Hid (∀ W, Below w.heap.size w W → W.cell? ⟨eb, 5, none⟩ = some (.int .i64 r))) (hA : A.size ≤ 2) (hB : B.size ≤ 1) (hAB : A ++ B = AB)
    (H2 : Hid (∀ W, Calls Try.prog 22 #[.int .i64 z, .int .i64 2] W fun e w' => e = .returned (.tuple #[.string A, .int .i64 0]) ∧ Below W.heap.size W w'))
    (H1 : Hid (∀ W, Calls Try.prog 22 #[.int .i64 r, .int .i64 1] W fun e w' => e = .returned (.tuple #[.string B, .int .i64 0]) ∧ Below W.heap.size W w'))
    (HS : Hid (∀ W, Below w.heap.size w W → Calls Try.prog 23 #[.pointer (some ⟨eb, 0, none⟩), .agg #[.int .i64 1, .int .i64 0, .int .i64 0, .int .i64 0, .bool false, .string AB]] W fun e w' => e = .returned (.tuple #[]) ∧ Post (.returned (.tuple #[])) w')) :
    Calls Try.prog 10 #[.pointer (some ⟨eb, 0, none⟩)] w Post := by
  go_enter Try.func10, Try.ntmps10
  go_upto_region 1 with (go_at_call 22; refine (H2.out _).mono ?_; rintro e w1 ⟨rfl, b1⟩)
  have d5 := c5.out w1 b1
  clear c5
  go_upto_region 2 with (go_at_call 22; refine (H1.out _).mono ?_; rintro e w2 ⟨rfl, b2⟩)
  have b3 := Rg.hid (Rg.chain b1 b2)
  go_wp2_with (go_at_call 23; refine (HS.out _ b3.out).mono ?_; rintro e w3 ⟨rfl, hp⟩)
  go_end0
  exact hp
theorem isaySync_any {Kp : Nat → Prop} {W : World} {eb : Nat} {d : Gp.Dr} {p : Pl} {q : Qv} {S : List UInt8} {C : List Gp.Pc} (h : IAt Kp W eb d p q S C) (hb : Ip.base d) (hlen : S.length + 13 ≤ 140737488355328) :
    Calls Try.prog 10 #[.pointer (some ⟨eb, 0, none⟩)] W fun e w' => IPostP Kp eb W d p q.ag q.cv (S ++ Ip.sync d) C e w' := by
  have hz := hb.sz
  have hr := hb.rm
  have ez : ((d.size.toNat : Nat) : Int) = d.size := by omega
  have er : ((d.room.toNat : Nat) : Int) = d.room := by omega
  have H2 := put2_any d.size.toNat (by omega)
  have H1 := put1_any d.room.toNat (by omega)
  rw [ez] at H2
  rw [er] at H1
  refine isaySync_go eb d.size d.room _ _ ⟨[UInt8.ofNat (d.size.toNat / 256), UInt8.ofNat (d.size.toNat % 256), UInt8.ofNat d.room.toNat].toArray⟩ W _ (h.bk.cell 4) (fun W1 b1 => (h.bk.below b1 h.bk.lt).cell 5) (by exact Nat.le_refl 2) (by exact Nat.le_refl 1) (Ip.cat_bytes _ _) H2 H1 (fun W1 b1 => ?_)
  have hs := isay_any (h.below b1) 1 0 0 0 false ⟨[UInt8.ofNat (d.size.toNat / 256), UInt8.ofNat (d.size.toNat % 256), UInt8.ofNat d.room.toNat].toArray⟩ hb.wn (pk_ok hb.wn rfl (by omega) (by omega) (by show 3 < 4096; omega)) (by unfold Ip.pk; rw [If.text_len]; exact hlen)
  exact hs.mono fun e w' ⟨h1, h2, h3⟩ => ⟨h1, rfl, h2, (Fr.of b1 (Nat.le_of_lt h.bk.lt)).trans h3⟩
set_option maxHeartbeats 1000000 in
set_option maxRecDepth 100000 in
theorem isayText_go (eb : Nat) (n : Int) (T D : ByteArray) (w : World) (Post : Ending → World → Prop) (hT : 0 < T.size) (i2 : (1 : Int) ≤ (T.size : Int)) (hD : T.extract 1 T.size = D)
    (HS : Hid (Calls Try.prog 23 #[.pointer (some ⟨eb, 0, none⟩), .agg #[.int .i64 0, .int .i64 n, .int .i64 0, .int .i64 (IntKind.i64.wrap ((T[0]'hT).toNat : Int)), .bool false, .string D]] w.drew fun e w' => e = .returned (.tuple #[]) ∧ Post (.returned (.tuple #[])) w')) :
    Calls Try.prog 45 #[.pointer (some ⟨eb, 0, none⟩), .int .i64 n, .string T] w Post := by
  go_enter Try.func45, Try.ntmps45
  go_wp2
  go_region_with (go_at_call 23; refine HS.out.mono ?_; rintro e w3 ⟨rfl, hp⟩)
  all_goals (go_wp2_with fail; go_end0; exact hp)
theorem text_head {T : ByteArray} (hT : 0 < T.size) : T.data.toList.headD 0 = T[0]'hT ∧ T.data.toList.tail = (T.extract 1 T.size).data.toList := by
  have hl : T.data.toList.length = T.size := Array.length_toList
  constructor
  · cases hd : T.data.toList with
    | nil => rw [hd] at hl; simp at hl; omega
    | cons a r =>
      have : T[0]'hT = T.data.toList[0]'(by rw [hl]; exact hT) := by simp; rfl
      rw [this]
      simp [hd]
  · rw [ByteArray.data_extract]
    simp [List.take_of_length_le]
theorem isayText_any {Kp : Nat → Prop} {W : World} {eb : Nat} {d : Gp.Dr} {p : Pl} {q : Qv} {S : List UInt8} {C : List Gp.Pc} (h : IAt Kp W eb d p q S C) (hb : Ip.base d) (n : Int) (hn : 0 ≤ n ∧ n ≤ 31) (T : ByteArray) (hT : Ip.okText d.size T) (hlen : S.length + 4200 ≤ 140737488355328) :
    Calls Try.prog 45 #[.pointer (some ⟨eb, 0, none⟩), .int .i64 n, .string T] W fun e w' => IPostP Kp eb W d p q.ag q.cv (S ++ Ip.packet d n T) C e w' := by
  obtain ⟨t1, t2, t3⟩ := hT
  have hz := hb.sz
  have h0 : 0 < T.size := by omega
  obtain ⟨e1, e2⟩ := text_head h0
  have hc : IntKind.i64.wrap ((T[0]'h0).toNat : Int) = ((T[0]'h0).toNat : Int) := by rw [IntKind.wrap_i64]; have := (T[0]'h0).toNat_lt; omega
  have hx : T.data.toList.tail.length = T.size - 1 := by rw [List.length_tail, Array.length_toList]; rfl
  have hlD : (T.extract 1 T.size).data.toList.length < 4096 := by rw [← e2, hx]; omega
  have ht : (Ip.pk d 0 n ((T[0]'h0).toNat : Int) (T.extract 1 T.size).data.toList).length ≤ 4200 := by
    unfold Ip.pk
    rw [If.text_len]
    have := If.bsz_le (T.extract 1 T.size).data.toList.length
    show 6 + If.bsz (T.extract 1 T.size).data.toList.length ≤ 4200
    omega
  have hp : Ip.packet d n T = Ip.pk d 0 n ((T[0]'h0).toNat : Int) (T.extract 1 T.size).data.toList := by unfold Ip.packet; rw [e1, e2]
  rw [e1] at t3
  refine isayText_go eb n T _ W _ h0 (by omega) rfl ?_
  rw [hc, hp]
  have hs := isay_any h.drew 0 n 0 ((T[0]'h0).toNat : Int) false (T.extract 1 T.size) hb.wn (pk_ok hb.wn rfl hn (by omega) hlD) (by omega)
  exact hs.mono fun e w' ⟨h1, h2, h3⟩ => ⟨h1, rfl, h2, (Fr.of (Below.drew (Below.refl _ _)) (Nat.le_of_lt h.bk.lt)).trans h3⟩
end Go.Proofs.Ytlclfkogbfigbaa

namespace Go.Proofs.Ytlclfkogbfigbaa
open Go.RowKit
/-- what a method leaves that says nothing, and makes no row -/
def IPostQ (Kp : Nat → Prop) (eb : Nat) (W : World) (v : Value) (d : Gp.Dr) (p : Pl) (q : Qv) (S : List UInt8) (C : List Gp.Pc) (e : Ending) (w' : World) : Prop := e = .returned v ∧ IAt Kp w' eb d p q S C ∧ Below eb W w'
set_option maxHeartbeats 1000000 in
set_option maxRecDepth 100000 in
theorem iisOpen_go (eb : Nat) (x : Int) (w : World) (c : w.cell? ⟨eb, 1, none⟩ = some (.int .i64 x)) (b1 b2 : Bool) (h1 : (x == 1) = b1) (h2 : (x == 2) = b2) :
    Calls Try.prog 19 #[.pointer (some ⟨eb, 0, none⟩)] w fun e w' => e = .returned (.bool (b1 || b2)) ∧ w' = w := by
  cases b1 with
  | true =>
    go_enter Try.func19, Try.ntmps19
    go_wp2
    go_ret
    exact ⟨rfl, rfl⟩
  | false =>
    go_enter Try.func19, Try.ntmps19
    go_wp2
    go_ret
    exact ⟨rfl, rfl⟩
theorem iisOpen_any {eb : Nat} {W : World} {d : Gp.Dr} {p : Pl} {q : Qv} (h : Rg.Bk eb (IC d p q) 51 W) :
    Calls Try.prog 19 #[.pointer (some ⟨eb, 0, none⟩)] W fun e w' => e = .returned (.bool (decide (d.phase = 1 ∨ d.phase = 2))) ∧ w' = W := by
  have := iisOpen_go eb d.phase W (h.cell 1) _ _ rfl rfl
  have e : (d.phase == 1 || d.phase == 2) = decide (d.phase = 1 ∨ d.phase = 2) := by rw [Bool.decide_or]; rfl
  rw [e] at this
  exact this
set_option maxHeartbeats 1000000 in
set_option maxRecDepth 100000 in
theorem icut_go (eb n : Nat) (X : ByteArray) (a y : Int) (w : World) (c12 : w.cell? ⟨eb, 12, none⟩ = some (.string X)) (c13 : w.cell? ⟨eb, 13, none⟩ = some (.int .i64 a)) (f : ∀ i, w.frozen? ⟨eb, i, none⟩ = false) (q0 : (0 : Int) ≤ (n : Int)) (q1 : (n : Int) ≤ (X.size : Int)) (h1 : wrap64 (a + n) = y) :
    Calls Try.prog 27 #[.pointer (some ⟨eb, 0, none⟩), .int .i64 (n : Int)] w fun e w' => e = .returned (.tuple #[]) ∧ w' = (w.setCell ⟨eb, 12, none⟩ (.string (X.extract n X.size))).setCell ⟨eb, 13, none⟩ (.int .i64 y) := by
  go_enter Try.func27, Try.ntmps27
  go_wp2
  go_end0
  exact ⟨rfl, rfl⟩
theorem Ip.size_bytes (b : List UInt8) : (⟨b.toArray⟩ : ByteArray).size = b.length := by show b.toArray.size = _; simp
theorem Ip.drop_bytes (b : List UInt8) (n : Nat) : (⟨b.toArray⟩ : ByteArray).extract n (⟨b.toArray⟩ : ByteArray).size = ⟨(b.drop n).toArray⟩ := by
  apply ByteArray.ext
  apply Array.ext'
  rw [Ip.size_bytes, ByteArray.data_extract]
  simp
  exact List.take_of_length_le (by simp)
theorem icut_any {Kp : Nat → Prop} {W : World} {eb : Nat} {d : Gp.Dr} {p : Pl} {q : Qv} {S : List UInt8} {C : List Gp.Pc} (h : IAt Kp W eb d p q S C) (n : Nat) (hn : n ≤ d.buf.length) (a0 : 0 ≤ d.at_) (a1 : d.at_ + n ≤ 1099511627776) :
    Calls Try.prog 27 #[.pointer (some ⟨eb, 0, none⟩), .int .i64 (n : Int)] W fun e w' => IPostQ Kp eb W (.tuple #[]) { d with buf := d.buf.drop n, at_ := d.at_ + n } p q S C e w' := by
  refine (icut_go eb n ⟨d.buf.toArray⟩ d.at_ (d.at_ + n) W (h.bk.cell 12) (h.bk.cell 13) h.bk.thaw (by omega) (by rw [Ip.size_bytes]; omega) (by unfold wrap64; omega)).mono ?_
  rintro e w' ⟨rfl, rfl⟩
  rw [Ip.drop_bytes]
  exact ⟨rfl, (h.upd 12 (.string ⟨(d.buf.drop n).toArray⟩) { d with buf := d.buf.drop n } rfl rfl rfl rfl rfl).upd 13 (.int .i64 (d.at_ + n)) { d with buf := d.buf.drop n, at_ := d.at_ + n } rfl rfl rfl rfl rfl, (below_set eb _ _).trans (below_set eb _ _)⟩
set_option maxHeartbeats 1000000 in
set_option maxRecDepth 100000 in
theorem imayRepeat_no (eb : Nat) (x m : Int) (w : World) (c : w.cell? ⟨eb, 15, none⟩ = some (.int .i64 x)) (h1 : bits .and .i64 x 1 = m) (h2 : (m != 0) = true) :
    Calls Try.prog 61 #[.pointer (some ⟨eb, 0, none⟩)] w fun e w' => e = .returned (.bool false) ∧ w' = w := by
  go_enter Try.func61, Try.ntmps61
  go_wp2
  go_ret
  exact ⟨rfl, rfl⟩
set_option maxHeartbeats 1000000 in
set_option maxRecDepth 100000 in
theorem imayRepeat_yes (eb : Nat) (x y : Int) (w : World) (c : w.cell? ⟨eb, 15, none⟩ = some (.int .i64 x)) (f : ∀ i, w.frozen? ⟨eb, i, none⟩ = false) (h1 : bits .and .i64 x 1 = 0) (h2 : bits .or .i64 x 1 = y) :
    Calls Try.prog 61 #[.pointer (some ⟨eb, 0, none⟩)] w fun e w' => e = .returned (.bool true) ∧ w' = w.setCell ⟨eb, 15, none⟩ (.int .i64 y) := by
  go_enter Try.func61, Try.ntmps61
  go_wp2
  go_ret
  exact ⟨rfl, rfl⟩
theorem wait_bits {x : Int} (h : 0 ≤ x ∧ x ≤ 3) : bits .and .i64 x 1 = x % 2 ∧ bits .or .i64 x 1 = Gp.or1 x ∧ bits .and .i64 x 2 = (if 2 ≤ x then 2 else 0) ∧ bits .or .i64 x 2 = Gp.or2 x := by
  have : x = 0 ∨ x = 1 ∨ x = 2 ∨ x = 3 := by omega
  rcases this with rfl | rfl | rfl | rfl <;> decide
theorem imayRepeat_n {Kp : Nat → Prop} {W : World} {eb : Nat} {d : Gp.Dr} {p : Pl} {q : Qv} {S : List UInt8} {C : List Gp.Pc} (h : IAt Kp W eb d p q S C) (t : 0 ≤ d.wait ∧ d.wait ≤ 3) (hy : d.wait % 2 = 1) :
    Calls Try.prog 61 #[.pointer (some ⟨eb, 0, none⟩)] W fun e w' => e = .returned (.bool false) ∧ w' = W :=
  imayRepeat_no eb d.wait 1 W (h.bk.cell 15) (by rw [(wait_bits t).1, hy]) rfl
theorem imayRepeat_y {Kp : Nat → Prop} {W : World} {eb : Nat} {d : Gp.Dr} {p : Pl} {q : Qv} {S : List UInt8} {C : List Gp.Pc} (h : IAt Kp W eb d p q S C) (t : 0 ≤ d.wait ∧ d.wait ≤ 3) (hy : ¬ d.wait % 2 = 1) :
    Calls Try.prog 61 #[.pointer (some ⟨eb, 0, none⟩)] W fun e w' => IPostQ Kp eb W (.bool true) { d with wait := Gp.or1 d.wait } p q S C e w' := by
  refine (imayRepeat_yes eb d.wait (Gp.or1 d.wait) W (h.bk.cell 15) h.bk.thaw (by rw [(wait_bits t).1]; omega) (wait_bits t).2.1).mono ?_
  rintro e w' ⟨rfl, rfl⟩
  exact ⟨rfl, h.upd 15 (.int .i64 (Gp.or1 d.wait)) { d with wait := Gp.or1 d.wait } rfl rfl rfl rfl rfl, below_set eb _ _⟩
end Go.Proofs.Ytlclfkogbfigbaa

namespace Go.Proofs.Ytlclfkogbfigbaa
open Go.RowKit
set_option maxHeartbeats 1000000 in
set_option maxRecDepth 100000 in
theorem placeOf_go (m s b : Int) (a : Option Addr) (n c : Nat) (k A R : Int) (rt ok lo hi : Bool)
    (HR : Hid (∀ w, Calls Try.prog 66 #[.agg #[.int .i64 m, .int .i64 s, .int .i64 b, .slice a n c]] w fun e w' => e = .returned (.bool rt) ∧ Below w.heap.size w w'))
    (HA : Hid (∀ w, Calls Try.prog 86 #[.int .i64 b, .int .i64 k, .int .i64 m] w fun e w' => e = .returned (.int .i64 A) ∧ w' = w))
    (dl : decide (A < 0) = lo) (dh : decide ((n : Int) ≤ A) = hi) (hok : Hid (ok = (rt && (!lo && !hi)))) (hR : Hid (R = if ok = true then A else 0)) (w : World) :
    Calls Try.prog 87 #[.agg #[.int .i64 m, .int .i64 s, .int .i64 b, .slice a n c], .int .i64 k] w fun e w' => e = .returned (.tuple #[.int .i64 R, .bool ok]) ∧ Below w.heap.size w w' := by
  cases rt with
  | false =>
    obtain rfl := hok.out
    obtain rfl := hR.out
    clear hok hR
    go_enter Try.func87, Try.ntmps87
    go_wp2_with (go_at_call 66; refine (HR.out _).mono ?_; rintro e w2 ⟨rfl, b2⟩)
    go_ret2
    exact ⟨rfl, Rg.chain (Rg.al1 _ _) b2⟩
  | true =>
    cases lo with
    | true =>
      obtain rfl := hok.out
      obtain rfl := hR.out
      clear hok hR
      go_enter Try.func87, Try.ntmps87
      go_upto_region 3 with (go_at_call 66; refine (HR.out _).mono ?_; rintro e w2 ⟨rfl, b2⟩)
      have k2 := Rg.Bk.below (Rg.Bk.new (C := [.int .i64 m, .int .i64 s, .int .i64 b, .slice a n c]) rfl) b2 (by simp)
      have c0 := k2.cell 0; have c2 := k2.cell 2; have c3 := k2.cell 3
      have b3 := Rg.hid (Rg.chain (Rg.al1 _ _) b2)
      clear k2 b2
      go_wp2_with (go_at_call 86; refine (HA.out _).mono ?_; rintro e w3 ⟨rfl, rfl⟩)
      go_ret2
      exact ⟨rfl, b3.out⟩
    | false =>
      cases hi with
      | true =>
        obtain rfl := hok.out
        obtain rfl := hR.out
        clear hok hR
        go_enter Try.func87, Try.ntmps87
        go_upto_region 3 with (go_at_call 66; refine (HR.out _).mono ?_; rintro e w2 ⟨rfl, b2⟩)
        have k2 := Rg.Bk.below (Rg.Bk.new (C := [.int .i64 m, .int .i64 s, .int .i64 b, .slice a n c]) rfl) b2 (by simp)
        have c0 := k2.cell 0; have c2 := k2.cell 2; have c3 := k2.cell 3
        have b3 := Rg.hid (Rg.chain (Rg.al1 _ _) b2)
        clear k2 b2
        go_wp2_with (go_at_call 86; refine (HA.out _).mono ?_; rintro e w3 ⟨rfl, rfl⟩)
        go_ret2
        exact ⟨rfl, b3.out⟩
      | false =>
        obtain rfl := hok.out
        obtain rfl := hR.out
        clear hok hR
        go_enter Try.func87, Try.ntmps87
        go_upto_region 3 with (go_at_call 66; refine (HR.out _).mono ?_; rintro e w2 ⟨rfl, b2⟩)
        have k2 := Rg.Bk.below (Rg.Bk.new (C := [.int .i64 m, .int .i64 s, .int .i64 b, .slice a n c]) rfl) b2 (by simp)
        have c0 := k2.cell 0; have c2 := k2.cell 2; have c3 := k2.cell 3
        have b3 := Rg.hid (Rg.chain (Rg.al1 _ _) b2)
        clear k2 b2
        go_wp2_with (go_at_call 86; refine (HA.out _).mono ?_; rintro e w3 ⟨rfl, rfl⟩)
        go_ret2
        exact ⟨rfl, b3.out⟩
/-- The place of a number, as the program tells it. -/
def Wn.plN (X : Wn.W) (k : Int) : Nat := (Wn.place X k).getD 0
theorem placeOf_any (X : Wn.W) (a : Option Addr) (c : Nat) (k : Int) (w : World) :
    Calls Try.prog 87 #[WV X a c, .int .i64 k] w fun e w' => e = .returned (.tuple #[.int .i64 (Wn.plN X k : Int), .bool (Wn.place X k).isSome]) ∧ Below w.heap.size w w' := by
  refine placeOf_go X.md X.sz X.bs a X.l.length c k (Wn.ahead X.bs k X.md) _ (Wn.rt X) _ _ _ (isRight_any X a c) (ahead_any _ _ _) rfl rfl ?_ ?_ w
  · show _ = _
    unfold Wn.place
    split
    · rename_i h
      rw [h.1, decide_eq_false (by omega), decide_eq_false (by omega)]; rfl
    · rename_i h
      cases hr : Wn.rt X with
      | false => rfl
      | true =>
        rcases Int.lt_or_le (Wn.ahead X.bs k X.md) 0 with h0 | h0
        · rw [decide_eq_true h0]; rfl
        · rcases Int.lt_or_le (Wn.ahead X.bs k X.md) X.l.length with h1 | h1
          · exact absurd ⟨hr, h0, h1⟩ h
          · rw [decide_eq_true h1]; simp
  · show _ = _
    unfold Wn.plN Wn.place
    split
    · rename_i h
      simp; omega
    · simp
end Go.Proofs.Ytlclfkogbfigbaa
