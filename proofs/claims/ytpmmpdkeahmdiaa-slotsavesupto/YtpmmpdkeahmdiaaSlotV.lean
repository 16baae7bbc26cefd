/- The slot's Value and Number; bytes.Clone. -/
import Derived.Shelf.Lay
import Derived.Shelf.Bytes.SlClone
import Derived.Ground.SlbCloneProg
import Derived.Test.YtpmmpdkeahmdiaaSlotB
namespace Go.Proofs.Ytpmmpdkeahmdiaa
open Go.RowKit Go.Shelf
set_option maxRecDepth 100000
shelf_lay SlLaysK.n4 Slk 4 at Try as cloneB
/-- Bytes, copied: none, or in a block of their own. -/
theorem cloneB_any (N : Nat) (v : Value) (xs : List Nat) (w : World) (hr : Row N w v xs) (hl : xs.length ≤ 140737488355328) :
    Calls Try.prog 57 #[v] w fun e w' => Below w.heap.size w w' ∧ ((xs = [] ∧ e = .returned (.slice none 0 0)) ∨ ∃ g cap, e = .returned (.slice (some ⟨g, 0, none⟩) xs.length cap) ∧ xs.length ≤ cap ∧ w.heap.size ≤ g ∧ g < w'.heap.size ∧ ∀ i, i < xs.length → w'.cell? ⟨g, 0 + i, none⟩ = some (bv (xs.getD i 0))) := by
  obtain ⟨ao, c, rfl, hcap, hno, hc⟩ := hr
  cases ao with
  | none =>
    have e : xs = [] := by
      cases xs with
      | nil => rfl
      | cons y r => obtain ⟨b, off, e, _⟩ := hc (by simp); cases e
    subst e
    have hcall : Calls Try.prog 57 #[.slice none 0 c] w fun e w' => e = .returned (.slice none 0 0) ∧ w' = w := Any.bytes_Clone_nil cloneB 0 c w
    refine hcall.mono ?_
    rintro e w' ⟨rfl, rfl⟩
    exact ⟨Below.refl _ _, .inl ⟨rfl, rfl⟩⟩
  | some a =>
    have hcall : Calls Try.prog 57 #[.slice (some a) xs.length c] w fun e w' => ∃ v', e = .returned v' ∧ w'.ownsRow w.heap.size 5 1 v' xs.length ((xs.map Int.ofNat).map (Value.int .u8)) ∧ v' ≠ .slice none 0 0 ∧ Below w.heap.size w w' :=
      Any.bytes_Clone_at cloneB a xs.length c (xs.map Int.ofNat) w (by simp) hl (fun i hi => by
        obtain ⟨b, off, e2, _, hc2⟩ := hc (by omega)
        obtain rfl := Option.some.inj e2
        have hadd : (⟨b, off, none⟩ : Addr).add i = ⟨b, off + i, none⟩ := by unfold Addr.add; split <;> simp_all
        rw [hadd, hc2 i hi]
        simp [List.getD_eq_getElem?_getD, List.getElem?_eq_getElem hi])
    refine hcall.mono ?_
    rintro e w' ⟨v', rfl, ⟨k1, ⟨e1, _⟩ | ⟨g, cap, cur, rfl, hg, hb2, k2, k3, k4, k5⟩⟩, hne, hbw⟩
    · exact absurd e1 hne
    · refine ⟨hbw, .inr ⟨g, cap, rfl, k2, hg, (Array.getElem?_eq_some_iff.1 hb2).1, fun i hi => ?_⟩⟩
      have e2 : ((xs.map Int.ofNat).map (Value.int .u8))[i]? = some (bv (xs.getD i 0)) := by
        simp [List.getElem?_eq_getElem hi, List.getD_eq_getElem?_getD]
      rw [← k5, List.getElem?_take, if_pos (by omega)] at e2
      rw [Nat.zero_add]
      simpa [World.cell?, hb2] using e2
set_option maxHeartbeats 1000000 in
theorem Number_any (w : World) (s p : Nat) (a : Int) (n : Nat) (xs : List Nat) (g : Nat) (h : SlotAt w s p a n xs g) :
    Calls Try.prog 22 #[.pointer (some ⟨s, 0, none⟩)] w fun e w' => e = .returned (.int .u64 (n : Int)) ∧ w' = w := by
  obtain ⟨ao, cap, c0, c1, c2, c3, cz, _⟩ := h.cells
  clear h
  go_enter Try.func22, Try.ntmps22
  go_wp2
  go_ret
  exact ⟨rfl, rfl⟩
set_option maxHeartbeats 1000000 in
theorem Value_any (w : World) (s p : Nat) (a : Int) (n : Nat) (xs : List Nat) (g : Nat) (h : SlotAt w s p a n xs g) (hl : xs.length ≤ 140737488355328) :
    Calls Try.prog 23 #[.pointer (some ⟨s, 0, none⟩)] w fun e w' => (∃ v, e = .returned v ∧ Row w'.heap.size w' v xs) ∧ Below w.heap.size w w' := by
  obtain ⟨ao, cap, c0, c1, c2, c3, cz, hr⟩ := h.cells
  have HR : Hid (Row w.heap.size w (.slice ao xs.length cap) xs) := hr
  clear h hr
  go_enter Try.func23, Try.ntmps23
  go_wp2_with fail
  refine (cloneB_any _ _ xs w HR.out hl).mono ?_
  rintro e w2 ⟨hb, ⟨hx, rfl⟩ | ⟨g2, cap2, rfl, hc2, _, hg2, hcells⟩⟩
  · subst hx
    have HB : Hid (Below w.heap.size w w2) := hb
    clear hb
    go_wp2_with fail
    go_ret
    exact ⟨⟨_, rfl, none, 0, rfl, Nat.le_refl _, fun _ => rfl, fun h => by simp at h⟩, HB.out⟩
  · have HB : Hid (Below w.heap.size w w2) := hb
    have HC : Hid (∀ i, i < xs.length → w2.cell? ⟨g2, 0 + i, none⟩ = some (bv (xs.getD i 0))) := hcells
    clear hb hcells
    go_wp2_with fail
    go_ret
    exact ⟨⟨_, rfl, some ⟨g2, 0, none⟩, cap2, rfl, hc2, (fun h => by cases h), fun _ => ⟨g2, 0, rfl, hg2, HC.out⟩⟩, HB.out⟩
end Go.Proofs.Ytpmmpdkeahmdiaa
