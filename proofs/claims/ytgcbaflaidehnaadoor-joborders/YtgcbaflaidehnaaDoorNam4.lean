/-
  Walks of layer 3: Id, ofSystem, Note, File and the document's.
-/
import Derived.Test.YtgcbaflaidehnaaDoorNam3
import Derived.Test.YtgcbaflaidehnaaDoorTxt
import Derived.Lib.ItoaMem
import Derived.Lib.ItoaLen
import Derived.Laws.BytesArg
import Derived.Laws.Runes
namespace Go.Proofs.YtgcbaflaidehnaaDoor
open Go.RowKit
theorem ret_si {a b : ByteArray} {x y : Int} (h : a = b) (h' : x = y) : Ending.returned (.tuple #[.string a, .int .i64 x]) = .returned (.tuple #[.string b, .int .i64 y]) := by rw [h, h']
theorem bcell {W w1 : World} (hb : Below W.heap.size W w1) : (∀ b o, b < W.heap.size → w1.cell? ⟨b, o, none⟩ = W.cell? ⟨b, o, none⟩) ∧ (∀ b o, b < W.heap.size → w1.frozen? ⟨b, o, none⟩ = W.frozen? ⟨b, o, none⟩) :=
  ⟨fun b o h => hb.cell (p := ⟨b, o, none⟩) h, fun b o h => hb.frozen (p := ⟨b, o, none⟩) h⟩
set_option maxHeartbeats 1000000 in
theorem id_yes (g n : Int) (w : World) (hm : Nam.may g n = true) (htab : Lib.TabIs Tryd.prog w "internal/strconv.uint64pow10" .u64 Lib.pow10Tab) :
    Calls Tryd.prog 16 #[.agg #[.int .i64 g, .int .i64 n]] w fun e w' => e = .returned (.tuple #[.string ⟨(Nam.idT g n).toArray⟩, .int .i64 0]) ∧ Below w.heap.size w w' := by
  have HM : Hid (∀ w : World, Calls Tryd.prog 26 #[.agg #[.int .i64 g, .int .i64 n]] w fun e w' => e = .returned (.bool true) ∧ w' = w.alloc (.cells #[.int .i64 g, .int .i64 n] 27)) := fun w => by have := mayBe_any g n w; rwa [hm] at this
  obtain ⟨hg, h1, h2⟩ := Nam.may_iff.1 hm
  obtain ⟨g0, g1⟩ := Nam.grade_bd hg
  have hw : IntKind.i32.wrap g = g := by rw [IntKind.wrap_i32]; omega
  have henc : Utf8.encode g = ⟨#[Nam.byteOf g]⟩ := by
    have hv : Utf8.valid g = true := by simp [Utf8.valid]; omega
    have hc : g.toNat < 128 := by omega
    unfold Utf8.encode
    simp only [hv, if_true, hc]
    rfl
  have b0 := below_alloc2 w (.cells #[.int .i64 g, .int .i64 n] 27) (.cells #[.int .i64 g, .int .i64 n] 27)
  have HT : Hid (∀ W, Below w.heap.size w W → Calls Tryd.prog 18 #[.int .i64 n] W fun e w' => e = .returned (.string ⟨(Lib.itoa n).toArray⟩) ∧ Below W.heap.size W w') :=
    fun W hW => text_any n _ (by omega) (by omega) (tab_below htab hW)
  have hl5 := Nam.itoa_len h1 h2
  clear hm hg htab
  go_enter Tryd.func16, Tryd.ntmps16
  go_wp2_with (go_at_call 26; refine (HM.out _).mono ?_; rintro e w1 ⟨rfl, rfl⟩)
  go_region_with (go_at_call 18; refine (HT.out _ b0.drew).mono ?_; rintro e w2 ⟨rfl, b2⟩; obtain ⟨hc2, hf2⟩ := bcell b2)
  all_goals
    go_wp2
    go_ret2
    exact ⟨ret_si (ba_app [_] _) rfl, b0.drew.trans (b2.mono b0.drew.size)⟩
set_option maxHeartbeats 1000000 in
theorem id_no (g n : Int) (w : World) (hm : Nam.may g n = false) :
    Calls Tryd.prog 16 #[.agg #[.int .i64 g, .int .i64 n]] w fun e w' => e = .returned (.tuple #[.string ⟨#[]⟩, .int .i64 1]) ∧ Below w.heap.size w w' := by
  have HM : Hid (∀ w : World, Calls Tryd.prog 26 #[.agg #[.int .i64 g, .int .i64 n]] w fun e w' => e = .returned (.bool false) ∧ w' = w.alloc (.cells #[.int .i64 g, .int .i64 n] 27)) := fun w => by have := mayBe_any g n w; rwa [hm] at this
  have b0 := below_alloc2 w (.cells #[.int .i64 g, .int .i64 n] 27) (.cells #[.int .i64 g, .int .i64 n] 27)
  clear hm
  go_enter Tryd.func16, Tryd.ntmps16
  go_wp2_with (go_at_call 26; refine (HM.out _).mono ?_; rintro e w1 ⟨rfl, rfl⟩)
  go_ret2
  exact ⟨rfl, b0⟩
theorem id_any (g n : Int) (w : World) (htab : Lib.TabIs Tryd.prog w "internal/strconv.uint64pow10" .u64 Lib.pow10Tab) :
    Calls Tryd.prog 16 #[.agg #[.int .i64 g, .int .i64 n]] w fun e w' => e = .returned (.tuple #[.string ⟨(Nam.id g n).1.toArray⟩, .int .i64 (Nam.id g n).2]) ∧ Below w.heap.size w w' := by
  cases hm : Nam.may g n with
  | true => have := id_yes g n w hm htab; unfold Nam.id; rw [if_pos hm]; exact this
  | false => have := id_no g n w hm; unfold Nam.id; rw [if_neg (by simp [hm])]; exact this

theorem conv_row (P : Program) (wr : World) (x : Int) (tS tB : TypeId) (hS : P.underlying tS = some (.slice tB)) (hB : P.underlying tB = some (.int .u8)) (t9 : TypeId) (h9 : P.underlying t9 = some .string) (b : Nat)
    (hb : wr.heap[b]? = some (.cells #[.int .u8 x] tB)) :
    (convert tS t9 (.slice (some ⟨b, 0, none⟩) 1 1)).run P wr = .ok (.string ⟨#[Nam.byteOf x]⟩) wr := by
  have h := run_convert_bytes_arg (P := P) wr tS tB hS hB b 0 1 1 [x] rfl (fun i hi => by
    obtain rfl : i = 0 := by omega
    rw [Lib.cell_of_heap hb (0 + 0)]; rfl) t9 h9
  exact h
theorem conv_new (wr : World) (x : Int) : (convert 52 9 (.slice (some ⟨wr.heap.size, 0, none⟩) 1 1)).run Tryd.prog (wr.alloc (.cells #[.int .u8 x] 5)) = .ok (.string ⟨#[Nam.byteOf x]⟩) (wr.alloc (.cells #[.int .u8 x] 5)) :=
  conv_row Tryd.prog _ x _ 5 Tryd.underlying52 Tryd.underlying5 9 Tryd.underlying9 _ (MapKept.heap_alloc wr _).1
theorem conv_in (X : World) (b : Nat) (x : Int) (hX : X.heap[b]? = some (.cells #[.int .u8 x] 5)) : (convert 52 9 (.slice (some ⟨b, 0, none⟩) 1 1)).run Tryd.prog X = .ok (.string ⟨#[Nam.byteOf x]⟩) X :=
  conv_row Tryd.prog _ x _ 5 Tryd.underlying52 Tryd.underlying5 9 Tryd.underlying9 _ hX
theorem conv_kept {X w2 : World} {b : Nat} {x : Int} (hX : X.heap[b]? = some (.cells #[.int .u8 x] 5)) (hb : Below X.heap.size X w2) : (convert 52 9 (.slice (some ⟨b, 0, none⟩) 1 1)).run Tryd.prog w2 = .ok (.string ⟨#[Nam.byteOf x]⟩) w2 :=
  conv_in w2 b x (by
    have hlt : b < X.heap.size := by
      rcases Nat.lt_or_ge b X.heap.size with h | h
      · exact h
      · rw [Array.getElem?_eq_none h] at hX; cases hX
    rw [hb.block _ hlt]; exact hX)
theorem heap_two (w : World) (a b : Obj) : ((w.alloc a).alloc b).drew.heap[w.heap.size + 1]? = some b := by
  have h := (MapKept.heap_alloc (w.alloc a) b).1
  have e : (w.alloc a).heap.size = w.heap.size + 1 := by simp
  rw [e] at h; exact h
theorem wrap_u8_g {g : Int} (h0 : 0 ≤ g) (h1 : g < 256) : IntKind.u8.wrap g = g := by rw [IntKind.wrap_u8]; omega

end Go.Proofs.YtgcbaflaidehnaaDoor
