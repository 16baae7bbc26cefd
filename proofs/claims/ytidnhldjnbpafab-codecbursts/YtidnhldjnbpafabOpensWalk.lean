/- CodecOpens: the law's own walk. -/
import Derived.Test.YtidnhldjnbpafabCut
namespace Go.Proofs.Ytidnhldjnbpafab
open Go.RowKit
set_option maxRecDepth 100000

theorem le4_byte (s : Nat) : ∀ x ∈ le4 s, x < 256 := by
  intro x hx
  simp only [le4, List.mem_cons, List.not_mem_nil, or_false] at hx
  omega
theorem seal_byte {xs : List Nat} (hx : ∀ x ∈ xs, x < 256) : ∀ x ∈ sealOf xs, x < 256 := by
  intro x h
  rcases List.mem_append.1 h with h | h
  · rcases List.mem_append.1 h with h | h
    · exact uw_byte _ _ h
    · exact hx x h
  · exact le4_byte _ x h
theorem seal_len {xs : List Nat} (h : xs.length ≤ 2097152) : xs.length + 5 ≤ (sealOf xs).length ∧ (sealOf xs).length ≤ xs.length + 14 := by
  have := uw_len10 (show xs.length < 18446744073709551616 by omega)
  rw [sealOf, List.length_append, List.length_append, le4_len]; omega

set_option maxHeartbeats 4000000 in
theorem opens_walk (v u : Value) (w : World) (xs : List Nat) (hrow : Row w.heap.size w v xs) (hl : xs.length ≤ 140737488351232) (hx : ∀ x ∈ xs, x < 256) (ys : List Nat) (hrow2 : Row w.heap.size w u ys) (_hl2 : ys.length ≤ 140737488351232) (hy : ∀ x ∈ ys, x < 256) (hsm : xs.length + ys.length ≤ 1048576) :
    Calls Try.prog 5 #[v, u] w fun e w' => e = .returned (.bool true) ∧ Below w.heap.size w w' := by
  have HR : Hid (Row w.heap.size w v xs) := hrow
  have HR2 : Hid (Row w.heap.size w u ys) := hrow2
  have HX : Hid (∀ x ∈ xs, x < 256) := hx
  have HXY : Hid (∀ x ∈ sealOf xs ++ ys, x < 256) := by
    intro x h
    rcases List.mem_append.1 h with h | h
    · exact seal_byte hx x h
    · exact hy x h
  have hsl := seal_len (xs := xs) (by omega)
  have HU : Hid (unsealR (sealOf xs ++ ys) = (xs, (sealOf xs).length, 0)) := unseal_seal (by omega) ys
  clear hrow hrow2 hx hy
  go_enter Try.func5, Try.ntmps5
  go_wp2_with fail
  refine (Seal_any _ _ xs w HR.out (Nat.le_refl _) HX.out (by omega)).mono ?_
  rintro e w1 ⟨hb1, hr1⟩
  have hs1 := hb1.size
  rcases hr1 with ⟨hlong, _⟩ | ⟨_, v1, rfl, hown1⟩
  · omega
  have HO1 : Hid (Bytes w.heap.size w1 v1 (sealOf xs)) := hown1
  obtain ⟨ao1, cap1, rfl, hcap1⟩ := hown1.row.shape
  clear hown1
  generalize sealOf xs = zs at *
  have hb1a : Below w1.heap.size w1 (w1.alloc (Obj.cells #[] 5)) := (Below.refl _ _).alloc (Nat.le_refl _) _
  have HB1 : Hid (Below w1.heap.size w1 (w1.alloc (Obj.cells #[] 5))) := hb1a
  clear hb1a
  go_wp2_with (at_builtin; refine append_row (by rfl) _ _ rfl w1.heap.size w1.heap.size _ _ [] zs rfl (bytes_none _ _ (Nat.le_refl _)) rfl (HO1.out.row.below HB1.out) (by simp; omega) (by simp) ?_)
  intro v2 w2 hown2 hb2 _
  have hb12 := HB1.out.trans hb2
  have hs2 := hb12.size
  have HO2 : Hid (Bytes w1.heap.size w2 v2 zs) := hown2
  have HR22 : Hid (Row w.heap.size w2 u ys) := HR2.out.below (hb1.trans (hb12.mono hs1))
  clear hown2 hb2 HB1
  go_wp2_with (at_builtin; refine append_row (by rfl) _ _ rfl w1.heap.size w.heap.size _ _ zs ys rfl HO2.out rfl HR22.out (by omega) hs2 ?_)
  intro v3 w3 hown3 hb3 _
  have hb13 := hb12.trans hb3
  have hs3 := hb13.size
  have HO3 : Hid (Bytes w1.heap.size w3 v3 (zs ++ ys)) := hown3
  clear hown3 hb3 HO2 HR22 hb12
  go_wp2_with fail
  refine (Unseal_any _ _ (zs ++ ys) w3 HO3.out.row (Nat.le_refl _) HXY.out (by simp; omega)).mono ?_
  rw [HU.out]
  rintro e w4 ⟨v4, rfl, hown4, hb4⟩
  have hb04 := hb1.trans ((hb13.trans (hb4.mono hs3)).mono hs1)
  have hs4 := hb04.size
  have HO4 : Hid (Bytes w3.heap.size w4 v4 xs) := hown4
  clear hown4 hb4 hb13 hb1 HU HO3
  go_wp2_with fail
  refine (alive_any w4).mono ?_
  rintro e w5 ⟨rfl, hb5⟩
  have hb05 := hb04.trans (hb5.mono hs4)
  have hc1 := (HO4.out.below hb5).row.str
  have hc2 := (HR.out.below hb05).str
  go_wp2_with fail
  go_ret
  exact ⟨by first | rfl | simp, hb05⟩
end Go.Proofs.Ytidnhldjnbpafab
