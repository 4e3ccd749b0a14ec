/-
  Walks of layer 11: Scan of whatever bytes; a packet is found behind bytes that are not 16.
-/
import Derived.Test.YtpgjdobgfhhbiaaGwN
namespace Go.Proofs.Ytpgjdobgfhhbiaa
open Go.RowKit
theorem ext_drop (s : ByteArray) (k : Nat) : (s.extract k s.size).data.toList = s.data.toList.drop k := by
  by_cases hk : k ≤ s.size
  · rw [Gf.extract_eq s k s.size hk (Nat.le_refl _), List.take_of_length_le]
    rw [List.length_drop, Gf.len_eq]; exact Nat.le_refl _
  · rw [List.drop_eq_nil_of_le (by rw [Gf.len_eq]; omega), ByteArray.data_extract]
    apply List.eq_nil_of_length_eq_zero
    rw [Array.length_toList, Array.size_extract]
    have : s.data.size = s.size := rfl
    omega
theorem gscan_any (s : ByteArray) (hs : s.size ≤ 9000) (w : World) :
    Calls Try.prog 16 #[.string s] w fun e w' => e = .returned (scanV (Gf.scan 0 s.data.toList)) ∧ Below w.heap.size w w' := by
  have b0 := Gf.below1 w (.cells #[.int .i64 0, .int .i64 0, .int .i64 0, .int .i64 0, .string ⟨#[]⟩] 23)
  refine gscan_core s w hs (by omega) (fun k W => ?_) (fun k f n h => ?_) ((Rg.Bk.new rfl).old _) (Rg.Bk.new (by simp)) (b0.alloc b0.size _)
  · have h := gread_any (s.extract k s.size) (by rw [← Gf.len_eq, ext_drop, List.length_drop, Gf.len_eq]; unfold maxLen; omega) W
    rw [ext_drop] at h
    exact h
  · have := (Gf.text_read h).2.2.2
    rw [List.length_drop, Gf.len_eq] at this
    omega
namespace Gf
theorem scan_found {f : Fr} (h : ok f) : ∀ (l : List UInt8) (p : Nat) (s : List UInt8), (∀ c ∈ l, ¬ c = 16) → scan p (l ++ (text f ++ s)) = ⟨f, p + l.length, p + l.length + (text f).length, true⟩
  | [], p, s, _ => by
    have ht : ∃ a r, text f ++ s = a :: r := ⟨16, _, rfl⟩
    obtain ⟨a, r, hr⟩ := ht
    have hrd := read_text h s
    rw [List.nil_append, hr, scan, ← hr, hrd]
    rfl
  | c :: l, p, s, hl => by
    rw [List.cons_append, scan, read_16 (hl c (List.mem_cons_self ..))]
    have e := scan_found h l (p + 1) s (fun x hx => hl x (List.mem_cons_of_mem _ hx))
    show (if 3 = 2 then _ else scan (p + 1) (l ++ (text f ++ s))) = _
    rw [if_neg (by decide), e, List.length_cons]
    congr 1 <;> omega
end Gf
end Go.Proofs.Ytpgjdobgfhhbiaa
