/- CodecUints: the law's own walk. -/
import Derived.Test.YtidnhldjnbpafaaSeal
import Derived.Test.YtidnhldjnbpafaaStep
namespace Go.Proofs.Ytidnhldjnbpafaa
open Go.RowKit
set_option maxRecDepth 100000
attribute [local go_sem ↓] Go.wp_at_zero Go.wp_at_succ

set_option maxHeartbeats 4000000 in
theorem uints_walk (v : Value) (n : Nat) (w : World) (xs : List Nat) (hrow : Row w.heap.size w v xs) (hl : xs.length ≤ 140737488351232) (_hx : ∀ x ∈ xs, x < 256) (hn : n < 18446744073709551616) :
    Calls Try.prog 3 #[v, .int .u64 (n : Int)] w fun e w' => e = .returned (.bool true) ∧ Below w.heap.size w w' := by
  have HR : Hid (Row w.heap.size w v xs) := hrow
  have hul := uw_len10 hn
  have hal0 : Below w.heap.size w (w.alloc (Obj.cells #[] 5)) := (Below.refl _ _).alloc (Nat.le_refl _) _
  have HA0 : Hid (Below w.heap.size w (w.alloc (Obj.cells #[] 5))) := hal0
  clear hrow hal0
  go_enter Try.func3, Try.ntmps3
  go_wp2_with (at_builtin; refine append_row (by rfl) _ _ rfl w.heap.size w.heap.size _ _ [] xs rfl (bytes_none _ _ (Nat.le_refl _)) rfl (HR.out.below HA0.out) (by simp; omega) (by simp) ?_)
  intro v1 w1 hown1 hb1 _
  have hb01 := HA0.out.trans hb1
  have hs1 := hb01.size
  have HO1 : Hid (Bytes w.heap.size w1 v1 xs) := hown1
  clear hb1 hown1
  go_wp2_with fail
  refine (refUint_all n w1 hn).mono ?_
  rintro e w2 ⟨v2, rfl, hown2, hb2⟩
  have hb02 := hb01.trans (hb2.mono hs1)
  have hs2 := hb02.size
  have HO12 : Hid (Bytes w.heap.size w2 v1 xs) := HO1.out.below hb2
  have HO2 : Hid (Bytes w1.heap.size w2 v2 (uw n)) := hown2
  clear hb2 hown2 hb01 HO1
  go_wp2_with (at_builtin; refine append_row (by rfl) _ _ rfl w.heap.size w2.heap.size _ _ xs (uw n) rfl HO12.out rfl HO2.out.row (by omega) hs2 ?_)
  intro v3 w3 hown3 hb3 _
  have hb03 := hb02.trans hb3
  have hs3 := hb03.size
  have HO3 : Hid (Bytes w.heap.size w3 v3 (xs ++ uw n)) := hown3
  clear hb3 hown3 hb02 HO12 HO2
  have HK : Hid (∀ w', Below w3.heap.size w3 w' → (convert 22 9 v3).run Try.prog w' = .ok (.string (strB (xs ++ uw n))) w') := fun w' h => (HO3.out.row.below h).str
  have HV : Hid (∀ w', Below w3.heap.size w3 w' → Row w.heap.size w' v xs ∧ Below w.heap.size w w') := fun w' h => ⟨HR.out.below (hb03.trans (h.mono hs3)), hb03.trans (h.mono hs3)⟩
  clear HO3
  go_wp2_with fail
  go_region_law (first
     | (go_simp; go_at_call 10; refine (alive_any _).mono ?_; rintro e w4 ⟨rfl, hb4⟩; have hk4 : Below w3.heap.size w3 w4 := ((Below.refl _ _).drew).trans hb4; have hs4 := hk4.size; have c4 := HK.out w4 hk4; have c4a := HK.out (w4.alloc (Obj.cells #[] 5)) (bel_alloc hk4 _))
     | (go_simp; go_at_call 11; refine (PutUint_any w4.heap.size _ xs n _ hown5 (by have := hb5.size; simp at this; omega) hn (by omega)).mono ?_; rintro e w6 ⟨v6, rfl, hown6, hb6⟩; have hk6 := bel_callB hk5 hb6 hs4; have c6 := HK.out w6 hk6; have hc6 := hown6.row.str)
     | (refine step_append_row (by rfl) _ _ (by rfl) w4.heap.size w.heap.size _ _ [] xs (by rfl) (bytes_none _ _ (by simp)) (by rfl) (HV.out _ (bel_alloc hk4 _)).1 (by simp; omega) (by simp) ?_; intro v5 w5 hown5 hb5; have hk5 := bel_callB (bel_alloc hk4 _) hb5 hs4; have c5 := HK.out w5 hk5))
  all_goals go_wp2
  all_goals go_ret
  all_goals exact ⟨rfl, hb03.trans (hk6.mono hs3)⟩
end Go.Proofs.Ytidnhldjnbpafaa
