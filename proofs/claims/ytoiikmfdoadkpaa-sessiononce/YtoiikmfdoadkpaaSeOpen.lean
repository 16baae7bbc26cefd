/- A table's Open. -/
import Derived.Test.YtoiikmfdoadkpaaSeCall
namespace Go.Proofs.Ytoiikmfdoadkpaa
open Go.RowKit Go.Lib
set_option maxRecDepth 100000
namespace Se
def r0 : Rw := (0, 0, 0, 0)
def openL (l : List Rw) : List Rw := if l.length < 4096 then l ++ [r0] else l
def openE (l : List Rw) : Int × Int := if l.length < 4096 then ((l.length : Int) + 1, 0) else (0, 152)
attribute [local go_sem ↓] exec_load_A exec_store_A exec_load_R exec_store_R
set_option maxHeartbeats 1000000 in
theorem Open_any (B : Nat) (w : World) (p : Nat) (v : Value) (l : List Rw) (K : TAt B w p v l) (hl : l.length ≤ 1099511627775) : Calls Try.prog 16 #[.pointer (some ⟨p, 0, none⟩)] w fun e w' => e = .returned (.tuple #[.int .u64 (openE l).1, .int .i64 (openE l).2]) ∧ ∃ v', TAt B w' p v' (openL l) ∧ Upd (TF p v) w w' ∧ (v'.ownBlock = v.ownBlock ∨ ∃ g, v'.ownBlock = some g ∧ w.heap.size ≤ g) := by
  have HL := Len_any B w p v l K
  by_cases h1 : l.length < 4096
  · obtain ⟨ad, cap, rfl, _⟩ := K.form
    have c0 := K.c0
    rw [show openL l = l ++ [r0] from if_pos h1, show openE l = ((l.length : Int) + 1, 0) from if_pos h1]
    have h2 : (l.length : Int) < 4096 := by omega
    have HEND : Hid (∀ v' W, GOwn 43 4 B W v' ((l ++ [r0]).map cellsR) → (w.alloc (.cells (cellsR r0).toArray 43)).grownBy W (Value.slice ad l.length cap).ownBlock → (v'.ownBlock = (Value.slice ad l.length cap).ownBlock ∨ ∃ g, v'.ownBlock = some g ∧ w.heap.size ≤ g) → W.cell? ⟨p, 0, none⟩ = some (.slice ad l.length cap) ∧ W.frozen? ⟨p, 0, none⟩ = false ∧ TAt B (W.setCell ⟨p, 0, none⟩ v') p v' (l ++ [r0]) ∧ Upd (TF p (.slice ad l.length cap)) w (W.setCell ⟨p, 0, none⟩ v')) := fun v' W hG hgr hob => by
      have hbA : Below w.heap.size w (w.alloc (.cells (cellsR r0).toArray 43)) := (Below.refl _ w).alloc (Nat.le_refl _) _
      have hu : Upd (fun k => (Value.slice ad l.length cap).ownBlock = some k) w W := (upd_of_below hbA).grown hgr (fun _ _ e => e)
      have hp := hu.block p K.lt K.ap
      have c1 : W.cell? ⟨p, 0, none⟩ = some (.slice ad l.length cap) := (World.cell?_of_block (w := w) hp).trans K.c0
      have f1 : W.frozen? ⟨p, 0, none⟩ = false := (World.frozen?_of_block (w := w) hp).trans K.f0
      have hap : v'.ownBlock ≠ some p := by
        rcases hob with e | ⟨g, e, hg⟩
        · rw [e]; exact K.ap
        · rw [e]; intro e2; cases e2; have := K.lt; omega
      refine ⟨c1, f1, ⟨K.low, by have := K.lt; have := hu.size; simpa [World.setCell] using (by omega : p < W.heap.size), World.cell?_setCell_same _ _ _ c1, (World.frozen?_setCells p [v'] 0 W ⟨p, 0, none⟩).trans f1, ?_, hap⟩, (hu.mono (fun k hk => .inr hk)).setCell (a := ⟨p, 0, none⟩) (.inl rfl) _⟩
      exact hG.same fun g hg => Below.heap_setCell _ _ _ _ (fun e => hap (by rw [show p = g from e.symm]; exact hg))
    have HROW : Hid (GOwn 43 4 B w (.slice ad l.length cap) (l.map cellsR)) := K.row
    have HBW : Hid (B ≤ w.heap.size) := by have h1 := K.low; have h2 := K.lt; show _ ≤ _; omega
    have hlen : (l.map cellsR).length = l.length := List.length_map _
    have hwr : IntKind.u64.wrap ((l.length : Int) + 1) = (l.length : Int) + 1 := by rw [IntKind.wrap_u64]; omega
    clear K
    go_enter Try.func16, Try.ntmps16
    go_upto_region 3 with (go_at_call 15; refine HL.mono ?_; rintro e w' ⟨rfl, rfl⟩)
    clear HL
    go_wp2_with (first
      | (go_at_call 15; refine (Len_any B _ p _ _ HT.out.1).mono ?_; rintro e w9 ⟨rfl, hw9⟩; replace hw9 := hw9.symm; subst hw9)
      | (at_builtin; refine append_g2 rtyR (by rfl) _ _ (cellsR r0) _ rfl B _ _ _ (l.map cellsR) rfl HROW.out rfl rfl (cellsR_ok _) (by rw [hlen]; omega) HBW.out ?_; intro v' W hG hgr hob; obtain ⟨c1, f1, hT, hU⟩ := HEND.out v' W (by rw [List.map_append]; exact hG) hgr hob; have HT : Hid (TAt B (W.setCell ⟨p, 0, none⟩ v') p v' (l ++ [r0]) ∧ Upd (TF p (.slice ad l.length cap)) w' (W.setCell ⟨p, 0, none⟩ v')) := ⟨hT, hU⟩; have HOB : Hid (v'.ownBlock = (Value.slice ad l.length cap).ownBlock ∨ ∃ g, v'.ownBlock = some g ∧ w'.heap.size ≤ g) := hob; obtain ⟨a7, n7, c7, hv7⟩ : ∃ a n c, v' = Value.slice a n c := (by obtain ⟨a, c, e, _⟩ := hT.form; exact ⟨_, _, _, e⟩); subst hv7; clear hG hgr hob hT hU))
    go_returns
    exact ⟨rfl, _, HT.out.1, HT.out.2, HOB.out⟩
  · rw [show openL l = l from if_neg h1, show openE l = (0, 152) from if_neg h1]
    have h2 : (4096 : Int) ≤ (l.length : Int) := by omega
    have HE : Hid (TAt B w p v l ∧ Upd (TF p v) w w) := ⟨K, Upd.refl _ _⟩
    generalize l.length = n at *
    clear K
    go_enter Try.func16, Try.ntmps16
    go_wp2_with (go_at_call 15; refine HL.mono ?_; rintro e w' ⟨rfl, rfl⟩)
    go_returns
    exact ⟨rfl, v, HE.out.1, HE.out.2, .inl rfl⟩
end Se
end Go.Proofs.Ytoiikmfdoadkpaa
