/-
  Layer 5: Order; jobs compared.
-/
import Derived.Test.YtgcbaflaidehnaaDoorSrt9
import Derived.Test.YtgcbaflaidehnaaDoorSrt11
import Derived.Test.YtgcbaflaidehnaaDoorLawJ1
namespace Go.Proofs.YtgcbaflaidehnaaDoor
open Go.RowKit

theorem sortOk : SortOk := fun g rest w0 cap d w h1 h2 h3 => (sortStable_any g rest w0 h1 cap d h2 w h3).mono fun e w' ⟨e1, S, e2, e3⟩ => ⟨e1, S, e2, by simpa using e3⟩
theorem order_any (a : Option Addr) (c : Nat) (l : List Job.Jb) (w : World) (hn : l.length ≤ 60) (hrow : JRow w a l) :
    Calls Tryd.prog 6 #[.slice a l.length c] w fun e w' => OrdPost w l e w' := order_of sortOk a c l w hn hrow
theorem eql_job (x y : Job.Jb) (w : World) : (binOp .eql 29 (jv x) (jv y)).run Tryd.prog w = .ok (.bool (decide (x = y))) w := by
  obtain ⟨g, n, k, u, f, t, c, z⟩ := x
  obtain ⟨g', n', k', u', f', t', c', z'⟩ := y
  have e (a b : ByteArray) : a.toList = b.toList ↔ a = b := ⟨fun h => Job.ba_of (by rw [← tl_eq, ← tl_eq]; exact h), fun h => by rw [h]⟩
  simp [go_sem, jv]
  simp only [e]
  by_cases h0 : g = g'
  · subst h0
    rw [if_pos rfl]
    by_cases h1 : n = n'
    · subst h1
      rw [if_pos rfl]
      by_cases h2 : k = k'
      · subst h2
        rw [if_pos rfl]
        by_cases h3 : u = u'
        · subst h3
          rw [if_pos rfl]
          by_cases h4 : f = f'
          · subst h4
            rw [if_pos rfl]
            by_cases h5 : t = t'
            · subst h5
              rw [if_pos rfl]
              by_cases h6 : c = c'
              · subst h6
                rw [if_pos rfl]
                by_cases h7 : z = z'
                · subst h7
                  rw [if_pos rfl]
                  simp
                · rw [if_neg h7]; simp [h7]
              · rw [if_neg h6]; simp [h6]
            · rw [if_neg h5]; simp [h5]
          · rw [if_neg h4]; simp [h4]
        · rw [if_neg h3]; simp [h3]
      · rw [if_neg h2]; simp [h2]
    · rw [if_neg h1]; simp [h1]
  · rw [if_neg h0]; simp [h0]
theorem neq_job (x y : Job.Jb) (w : World) : (binOp .neq 29 (jv x) (jv y)).run Tryd.prog w = .ok (.bool (!decide (x = y))) w := by
  obtain ⟨g, n, k, u, f, t, c, z⟩ := x
  obtain ⟨g', n', k', u', f', t', c', z'⟩ := y
  have e (a b : ByteArray) : a.toList = b.toList ↔ a = b := ⟨fun h => Job.ba_of (by rw [← tl_eq, ← tl_eq]; exact h), fun h => by rw [h]⟩
  simp [go_sem, jv]
  simp only [e]
  by_cases h0 : g = g'
  · subst h0
    rw [if_pos rfl]
    by_cases h1 : n = n'
    · subst h1
      rw [if_pos rfl]
      by_cases h2 : k = k'
      · subst h2
        rw [if_pos rfl]
        by_cases h3 : u = u'
        · subst h3
          rw [if_pos rfl]
          by_cases h4 : f = f'
          · subst h4
            rw [if_pos rfl]
            by_cases h5 : t = t'
            · subst h5
              rw [if_pos rfl]
              by_cases h6 : c = c'
              · subst h6
                rw [if_pos rfl]
                by_cases h7 : z = z'
                · subst h7
                  rw [if_pos rfl]
                  simp
                · rw [if_neg h7]; simp [h7]
              · rw [if_neg h6]; simp [h6]
            · rw [if_neg h5]; simp [h5]
          · rw [if_neg h4]; simp [h4]
        · rw [if_neg h3]; simp [h3]
      · rw [if_neg h2]; simp [h2]
    · rw [if_neg h1]; simp [h1]
  · rw [if_neg h0]; simp [h0]
end Go.Proofs.YtgcbaflaidehnaaDoor
