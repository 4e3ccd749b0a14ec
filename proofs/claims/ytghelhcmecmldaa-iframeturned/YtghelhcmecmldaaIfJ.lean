/-
  Walks of the laws of layer 12: IframeTurned, whole.
-/
import Derived.Test.YtghelhcmecmldaaIfH
import Derived.Test.YtghelhcmecmldaaIfI
namespace Go.Proofs.Ytghelhcmecmldaa
open Go.RowKit
theorem If.byte_of (x : Int) : ∃ y : UInt8, IntKind.u8.wrap x = (y.toNat : Int) := by
  refine ⟨UInt8.ofNat (x % 256).toNat, ?_⟩
  rw [If.ofNat_toNat (by omega), IntKind.wrap_u8]
  omega
theorem If.set_same (L : List UInt8) (K : Nat) (y : UInt8) (h : y.toNat = 0) : L.set K (L.getD K 0 ^^^ y) = L := by
  have e : L.getD K 0 ^^^ y = L.getD K 0 := by
    apply UInt8.toNat_inj.1
    rw [If.toNat_xor, h, Nat.xor_zero]
  rw [e]
  by_cases hK : K < L.length
  · rw [List.getD_eq_getElem?_getD, List.getElem?_eq_getElem hK]
    exact List.set_getElem_self hK
  · exact List.set_eq_of_length_le (by omega)
theorem If.set_other {L : List UInt8} {K : Nat} {y : UInt8} (hK : K < L.length) (h : ¬ y.toNat = 0) : ¬ L.set K (L.getD K 0 ^^^ y) = L := by
  intro e
  have e2 : ((L.set K (L.getD K 0 ^^^ y)).getD K 0).toNat = (L.getD K 0).toNat := by rw [e]
  rw [List.getD_eq_getElem?_getD (l := L.set K _), List.getElem?_set_self hK, Option.getD_some, If.toNat_xor] at e2
  exact If.xor_ne h e2
/-- Read of bytes that are a packet's, or that are refused. -/
theorem read_same {k n a c : Int} {b : Bool} {d : ByteArray} (hk : If.ok ⟨k, n, a, c, b, d.data.toList⟩) (W : World) :
    Calls Try.prog 12 #[.string (⟨(If.text ⟨k, n, a, c, b, d.data.toList⟩).toArray⟩ : ByteArray)] W fun e w' => e = .returned (.tuple #[.agg #[.int .i64 k, .int .i64 n, .int .i64 a, .int .i64 c, .bool b, .string d], .int .i64 ((If.text ⟨k, n, a, c, b, d.data.toList⟩).length : Nat), .int .i64 0]) ∧ Below W.heap.size W w' := by
  have hX := (If.text_size hk).1
  have h := iread_any (⟨(If.text ⟨k, n, a, c, b, d.data.toList⟩).toArray⟩ : ByteArray) (by unfold maxLen; omega) W
  have e := If.read_text hk []
  rw [List.append_nil] at e
  have e2 : If.read ((⟨(If.text ⟨k, n, a, c, b, d.data.toList⟩).toArray⟩ : ByteArray)).data.toList = .ok (⟨k, n, a, c, b, d.data.toList⟩, (If.text ⟨k, n, a, c, b, d.data.toList⟩).length) := e
  rw [e2] at h
  exact h
theorem read_refused {L : List UInt8} {E : Nat} (hl : L.length ≤ 5000) (h : If.read L = .error E) (W : World) :
    Calls Try.prog 12 #[.string ⟨L.toArray⟩] W fun e w' => e = .returned (.tuple #[.agg #[.int .i64 0, .int .i64 0, .int .i64 0, .int .i64 0, .bool false, .string ⟨#[]⟩], .int .i64 (0 : Nat), .int .i64 E]) ∧ Below W.heap.size W w' := by
  have h1 := iread_any ⟨L.toArray⟩ (by rw [If.size_of]; unfold maxLen; omega) W
  have e2 : If.read (⟨L.toArray⟩ : ByteArray).data.toList = .error E := h
  rw [e2] at h1
  exact h1
theorem iturn_walk (k n a c : Int) (b : Bool) (d : ByteArray) (p q : Int) (w : World) :
    Calls Try.prog 8 #[.agg #[.int .i64 k, .int .i64 n, .int .i64 a, .int .i64 c, .bool b, .string d], .int .i64 p, .int .i64 q] w fun e w' => e = .returned (.bool true) ∧ Below w.heap.size w w' := by
  have bw := If.below1 w (.cells #[.int .i64 k, .int .i64 n, .int .i64 a, .int .i64 c, .bool b, .string d] 23)
  have kw : Rg.Bk w.heap.size [.int .i64 k, .int .i64 n, .int .i64 a, .int .i64 c, .bool b, .string d] 23 (w.alloc (.cells #[.int .i64 k, .int .i64 n, .int .i64 a, .int .i64 c, .bool b, .string d] 23)) := Rg.Bk.new rfl
  have HA := keepF (C := [.int .i64 k, .int .i64 n, .int .i64 a, .int .i64 c, .bool b, .string d]) (ty := 23) w iawake_any
  by_cases hk : If.ok ⟨k, n, a, c, b, d.data.toList⟩
  · have HW := keepF (C := [.int .i64 k, .int .i64 n, .int .i64 a, .int .i64 c, .bool b, .string d]) (ty := 23) w (fun W => iwrite_ok hk W)
    by_cases q1 : 5000 < d.size
    · exact iturn_big k n a c b p q d w bw kw HA (by simp; omega) _ 0 HW
    have q1' : decide ((5000 : Int) < (d.size : Int)) = false := by simp; omega
    obtain ⟨hX, hX6⟩ := If.text_size hk
    have hlt := hk.2
    rw [If.len_eq] at hlt
    have hlt : d.size < 4096 := hlt
    have hXl : (⟨(If.text ⟨k, n, a, c, b, d.data.toList⟩).toArray⟩ : ByteArray).size = 6 + If.bsz d.size := by rw [If.size_of, If.text_len, If.len_eq]
    have hXb := If.bsz_le d.size
    obtain ⟨U, hU⟩ : ∃ U : Nat, IntKind.u64.wrap p = (U : Int) := ⟨(IntKind.u64.wrap p).toNat, by rw [IntKind.wrap_u64]; omega⟩
    obtain ⟨R, hR⟩ : ∃ R : Nat, R = 6 + d.size := ⟨_, rfl⟩
    obtain ⟨K, hK⟩ : ∃ K : Nat, K = U % R := ⟨_, rfl⟩
    have hKR : K < R := by rw [hK]; exact Nat.mod_lt U (by omega)
    have r1 : wrap64 (6 + (d.size : Int)) = (R : Int) := by unfold wrap64; omega
    have r2 : IntKind.i64.wrap (6 + (d.size : Int)) = (R : Int) := by rw [IntKind.wrap_i64]; omega
    have r3 : 6 + (d.size : Int) = (R : Int) := by omega
    have r4 : IntKind.u64.wrap (R : Int) = (R : Int) := by rw [IntKind.wrap_u64]; omega
    have r5 : (U : Int) % (R : Int) = (K : Int) := by rw [hK, Int.natCast_emod]
    have r6 : (U : Int).tmod (R : Int) = (K : Int) := by rw [Int.tmod_eq_emod_of_nonneg (by omega)]; exact r5
    clear hK
    by_cases hK6 : K < 6
    · obtain ⟨y, hy⟩ := If.byte_of q
      have hin : K < (If.text ⟨k, n, a, c, b, d.data.toList⟩).length := by rw [If.text_len]; omega
      have hxr := Bit.xor_u8 ((If.text ⟨k, n, a, c, b, d.data.toList⟩).getD K 0).toNat y.toNat (UInt8.toNat_lt _) (UInt8.toNat_lt _)
      rw [← If.toNat_xor] at hxr
      by_cases hy0 : y.toNat = 0
      · have hs := If.set_same (If.text ⟨k, n, a, c, b, d.data.toList⟩) K y hy0
        exact iturn_head_true k n a c b p q d w bw kw HA q1' (⟨(If.text ⟨k, n, a, c, b, d.data.toList⟩).toArray⟩ : ByteArray) U K R hU r1 r2 r3 r4 r5 r6 hKR (by omega) (by omega) (by omega) (decide_eq_true (by omega)) (decide_eq_false (by omega)) hin (by omega) (by omega) y ((If.text ⟨k, n, a, c, b, d.data.toList⟩).getD K 0 ^^^ y) ((If.text ⟨k, n, a, c, b, d.data.toList⟩).getD K 0) rfl hy hxr (⟨(If.text ⟨k, n, a, c, b, d.data.toList⟩).toArray⟩ : ByteArray) (congrArg (fun l => (⟨l.toArray⟩ : ByteArray)) hs) k n a c b d _ (beq_iff_eq.2 rfl) HW (fun W => read_same hk W) iawake_any
      · have hne := If.set_other hin hy0
        have hre := If.text_turned hk y hy0 K hK6
        exact iturn_head_false k n a c b p q d w bw kw HA q1' (⟨(If.text ⟨k, n, a, c, b, d.data.toList⟩).toArray⟩ : ByteArray) U K R hU r1 r2 r3 r4 r5 r6 hKR (by omega) (by omega) (by omega) (decide_eq_true (by omega)) (decide_eq_false (by omega)) hin (by omega) (by omega) y ((If.text ⟨k, n, a, c, b, d.data.toList⟩).getD K 0 ^^^ y) ((If.text ⟨k, n, a, c, b, d.data.toList⟩).getD K 0) rfl hy hxr _ rfl 0 0 0 0 false ⟨#[]⟩ 0 (by rw [tl_eq, tl_eq]; exact beq_eq_false_iff_ne.2 hne) 3 (by decide) (by decide) (by decide) (by decide) (by decide) HW (fun W => read_refused (by rw [List.length_set, If.text_len, If.len_eq]; omega) hre W) iawake_any
    · obtain ⟨y0, h0⟩ := If.byte_of q
      obtain ⟨y1, h1⟩ := If.byte_of (q / 256)
      obtain ⟨y2, h2⟩ := If.byte_of (q / 65536)
      obtain ⟨y3, h3⟩ := If.byte_of (q / 16777216)
      obtain ⟨m, hm⟩ : ∃ m : Nat, m = min 4 (R - K) := ⟨_, rfl⟩
      have hm4 : m ≤ 4 := by omega
      have hmR : K + m ≤ R := by omega
      have hend : m = 4 ∨ K + m = R := by omega
      have h0' : IntKind.u8.wrap (q / 1) = (y0.toNat : Int) := by rw [Int.ediv_one]; exact h0
      have hdl := If.len_eq d
      have hre := If.tn_read hk (K - 6) m (fun j => if j = 0 then y0 else if j = 1 then y1 else if j = 2 then y2 else y3) hm4 (by show K - 6 + m ≤ d.data.toList.length; omega)
      rw [show 6 + (K - 6) = K by omega] at hre
      generalize hyy : (fun j => if j = 0 then y0 else if j = 1 then y1 else if j = 2 then y2 else y3) = y at hre
      have z0 : y 0 = y0 := by rw [← hyy]; rfl
      have z1 : y 1 = y1 := by rw [← hyy]; rfl
      have z2 : y 2 = y2 := by rw [← hyy]; rfl
      have z3 : y 3 = y3 := by rw [← hyy]; rfl
      rw [← z0] at h0 h0'
      rw [← z1] at h1
      rw [← z2] at h2
      rw [← z3] at h3
      clear hyy z0 z1 z2 z3
      rcases hre with hs | ⟨hne, hre⟩
      · have hs2 : (⟨(If.tn (If.text ⟨k, n, a, c, b, d.data.toList⟩) K y m).toArray⟩ : ByteArray) = (⟨(If.text ⟨k, n, a, c, b, d.data.toList⟩).toArray⟩ : ByteArray) := by rw [hs]
        exact iturn_data_true k n a c b p q d w bw kw HA q1' (⟨(If.text ⟨k, n, a, c, b, d.data.toList⟩).toArray⟩ : ByteArray) U K R hU r1 r2 r3 r4 r5 r6 hKR (by omega) (by omega) (by omega) (decide_eq_false (by omega)) (decide_eq_true (by omega)) m hm4 hmR hend (by omega) (by omega) y h0 h0' h1 h2 h3 (⟨(If.text ⟨k, n, a, c, b, d.data.toList⟩).toArray⟩ : ByteArray) hs2 k n a c b d _ (beq_iff_eq.2 rfl) HW (fun W => read_same hk W) iawake_any
      · exact iturn_data_false k n a c b p q d w bw kw HA q1' (⟨(If.text ⟨k, n, a, c, b, d.data.toList⟩).toArray⟩ : ByteArray) U K R hU r1 r2 r3 r4 r5 r6 hKR (by omega) (by omega) (by omega) (decide_eq_false (by omega)) (decide_eq_true (by omega)) m hm4 hmR hend (by omega) (by omega) y h0 h0' h1 h2 h3 _ rfl 0 0 0 0 false ⟨#[]⟩ 0 (by rw [tl_eq, tl_eq]; exact beq_eq_false_iff_ne.2 hne) 4 (by decide) (by decide) (by decide) (by decide) (by decide) HW (fun W => read_refused (by rw [If.tn_len, If.text_len, If.len_eq]; omega) hre W) iawake_any
  · obtain ⟨F, hF, HW0⟩ := iwrite_not hk
    have HW := keepF (C := [.int .i64 k, .int .i64 n, .int .i64 a, .int .i64 c, .bool b, .string d]) (ty := 23) w HW0
    by_cases q1 : 5000 < d.size
    · exact iturn_big k n a c b p q d w bw kw HA (by simp; omega) _ F HW
    · exact iturn_no k n a c b p q d w bw kw HA (by simp; omega) F hF HW
end Go.Proofs.Ytghelhcmecmldaa
