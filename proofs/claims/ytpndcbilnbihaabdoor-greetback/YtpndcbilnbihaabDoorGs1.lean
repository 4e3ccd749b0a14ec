/-
  Layer 9: the walks of GreetScans and GreetPieces.
-/
import Derived.Test.YtpndcbilnbihaabDoorLong9
namespace Go.Proofs.YtpndcbilnbihaabDoor
open Go.RowKit

theorem long_list (l : List ByteArray) (o : Obj) (w : World) (hn : l.length ≤ 1000) (hb : (w.alloc o).heap[w.heap.size]? = some (.cells (l.map Value.string).toArray 9 (0, 0))) (L : Bool) (hL : (l.any fun s => decide (3000 < s.size)) = L) :
    Calls Tryd.prog 4 #[.slice (some ⟨w.heap.size, 0, none⟩) l.length l.length] (w.alloc o) fun e w' => e = .returned (.bool L) ∧ Below w.heap.size w w' := by
  have h := long_any l w.heap.size (w.alloc o) hn (fun i hi => by
    rw [Lib.cell_of_heap hb]
    simp [hi])
  rw [hL] at h
  refine h.mono ?_
  rintro e w' ⟨rfl, rfl⟩
  exact ⟨rfl, (Below.refl _ w).alloc (Nat.le_refl _) _⟩

end Go.Proofs.YtpndcbilnbihaabDoor
