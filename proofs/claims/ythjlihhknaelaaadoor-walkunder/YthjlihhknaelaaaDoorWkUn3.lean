/- Under: the iterator it gives, and what told says of it. -/
import Derived.Test.YthjlihhknaelaaaDoorWkUn2
namespace Go.Proofs.YthjlihhknaelaaaDoor
open Go.RowKit Go.Shelf Nums Fm Pk Pm
set_option maxRecDepth 100000

theorem Under_mk (wb : Nat) (s : ByteArray) (w : World) : Calls Tryd.prog 21 #[.pointer (some ⟨wb, 0, none⟩), .string s] w fun e w' => e = .returned (.func (.func 37) #[] #[.pointer (some ⟨w.heap.size, 0, none⟩), .pointer (some ⟨w.heap.size + 1, 0, none⟩)]) ∧ ∃ t1 t2, w' = (w.alloc (.cells #[.pointer (some ⟨wb, 0, none⟩)] t1)).alloc (.cells #[.string s] t2) := by
  go_enter Tryd.func21, Tryd.ntmps21
  go_wp2
  go_ret
  exact ⟨rfl, _, _, rfl⟩
/-- Under's iterator, told: the pairs whose words begin with s. -/
theorem Under_any (w : World) (wb : Nat) (l : List Pr) (h : WkOn w wb l) (hl : l.length ≤ 4096) (s : ByteArray) :
    Calls Tryd.prog 21 #[.pointer (some ⟨wb, 0, none⟩), .string s] w fun e w' => ∃ c0 c1, e = .returned (.func (.func 37) #[] #[.pointer (some ⟨c0, 0, none⟩), .pointer (some ⟨c1, 0, none⟩)]) ∧ Below w.heap.size w w' ∧ ∀ W, Below w'.heap.size w' W → ∀ most : Int, most ≤ 1048576 → Calls Tryd.prog 14 #[.func (.func 37) #[] #[.pointer (some ⟨c0, 0, none⟩), .pointer (some ⟨c1, 0, none⟩)], .int .i64 most] W fun e w'' => ∃ ad n cap, e = .returned (.slice ad n cap) ∧ PRow w'' (.slice ad n cap) ((l.filter fun x => hpB x.1 s).take most.toNat) ∧ Below W.heap.size W w'' := by
  refine (Under_mk wb s w).mono ?_
  rintro e w' ⟨rfl, t1, t2, hw'⟩
  have hb : Below w.heap.size w w' := by rw [hw']; exact ((Below.refl _ w).alloc (Nat.le_refl _) _).alloc (by simp) _
  have hcw : w'.cell? ⟨w.heap.size, 0, none⟩ = some (.pointer (some ⟨wb, 0, none⟩)) := by rw [hw']; simp
  have hci : w'.cell? ⟨w.heap.size + 1, 0, none⟩ = some (.string s) := by rw [hw']; simp
  have hsz : w'.heap.size = w.heap.size + 2 := by rw [hw']; simp
  refine ⟨_, _, rfl, hb, fun W hW most hm => ?_⟩
  have hbW : Below w.heap.size w W := hb.trans (hW.mono hb.size)
  exact toldU_any W _ _ _ _ most hm (under_seq w wb l h hl w.heap.size (w.heap.size + 1) s) (fun W' A hW' hA => ⟨hbW.trans (hW'.mono hbW.size), fun j hj => Nat.le_trans hbW.size (hA j hj), (hW'.cell (p := ⟨w.heap.size, 0, none⟩) (by show w.heap.size < _; have := hW.size; omega)).trans ((hW.cell (p := ⟨w.heap.size, 0, none⟩) (by show w.heap.size < _; omega)).trans hcw), (hW'.cell (p := ⟨w.heap.size + 1, 0, none⟩) (by show w.heap.size + 1 < _; have := hW.size; omega)).trans ((hW.cell (p := ⟨w.heap.size + 1, 0, none⟩) (by show w.heap.size + 1 < _; omega)).trans hci), fun ha => by have h1 := hA _ ha; have h2 := hW.size; omega⟩)
end Go.Proofs.YthjlihhknaelaaaDoor
