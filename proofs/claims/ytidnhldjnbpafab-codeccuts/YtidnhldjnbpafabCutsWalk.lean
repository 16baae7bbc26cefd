/- CodecCuts: the law's own walk. -/
import Derived.Test.YtidnhldjnbpafabOpensWalk
namespace Go.Proofs.Ytidnhldjnbpafab
open Go.RowKit
set_option maxRecDepth 100000

set_option maxHeartbeats 4000000 in
theorem cuts_walk (v : Value) (n : Int) (w : World) (xs : List Nat) (hrow : Row w.heap.size w v xs) (hl : xs.length ≤ 140737488351232) (hx : ∀ x ∈ xs, x < 256) (hn1 : -9223372036854775808 ≤ n) (hn2 : n ≤ 9223372036854775807) :
    Calls Try.prog 6 #[v, .int .i64 n] w fun e w' => e = .returned (.bool true) ∧ Below w.heap.size w w' := by
  have HR : Hid (Row w.heap.size w v xs) := hrow
  have HX : Hid (∀ x ∈ xs, x < 256) := hx
  have HSB : Hid (∀ x ∈ sealOf xs, x < 256) := seal_byte hx
  clear hrow hx
  go_enter Try.func6, Try.ntmps6
  go_wp2_with fail
  refine (Seal_any _ _ xs w HR.out (Nat.le_refl _) HX.out (by omega)).mono ?_
  rintro e w1 ⟨hb1, hr1⟩
  have hs1 := hb1.size
  rcases hr1 with ⟨hlong, rfl⟩ | ⟨hsh, v1, rfl, hown1⟩
  · go_wp2_with fail
    refine (alive_any w1).mono ?_
    rintro e w2 ⟨rfl, hb2⟩
    go_wp2_with fail
    go_ret
    exact ⟨rfl, hb1.trans (hb2.mono hs1)⟩
  have hsl := seal_len hsh
  have HO1 : Hid (Bytes w.heap.size w1 v1 (sealOf xs)) := hown1
  have HCut : Hid (∀ k : Nat, k < (sealOf xs).length → (unsealR ((sealOf xs).take k)).2.2 = 20) := fun k hk => unseal_cut hsh hk
  obtain ⟨ao1, cap1, rfl, hcap1⟩ := hown1.row.shape
  obtain ⟨b, off, rfl⟩ : ∃ b off, ao1 = some ⟨b, off, none⟩ := by
    obtain ⟨ao', cap', e, _, _, hc⟩ := hown1.row
    simp only [Value.slice.injEq] at e
    obtain ⟨rfl, _, rfl⟩ := e
    obtain ⟨b, off, e, _⟩ := hc (by omega)
    exact ⟨b, off, e⟩
  clear hown1
  generalize sealOf xs = zs at *
  by_cases hneg : n < 0
  · go_wp2_with fail
    refine (alive_any w1).mono ?_
    rintro e w2 ⟨rfl, hb2⟩
    go_wp2_with fail
    go_ret
    exact ⟨rfl, hb1.trans (hb2.mono hs1)⟩
  by_cases hbig : (zs.length : Int) ≤ n
  · go_wp2_with fail
    refine (alive_any w1).mono ?_
    rintro e w2 ⟨rfl, hb2⟩
    go_wp2_with fail
    go_ret
    exact ⟨rfl, hb1.trans (hb2.mono hs1)⟩
  obtain ⟨k, rfl⟩ : ∃ k : Nat, n = (k : Int) := ⟨n.toNat, by omega⟩
  have hk : k < zs.length := by omega
  have hkc : (k : Int) ≤ (cap1 : Int) := by omega
  have hkl : (k : Int) < (zs.length : Int) := by omega
  have HT : Hid (Row w1.heap.size w1 (.slice (some ⟨b, off, none⟩) k cap1) (zs.take k)) := row_take HO1.out.row (by omega)
  have HTB : Hid (∀ x ∈ zs.take k, x < 256) := fun x h => HSB.out x (List.mem_of_mem_take h)
  have h20 := HCut.out k hk
  have htl : (zs.take k).length ≤ 140737488355328 := by rw [List.length_take]; omega
  go_wp2_with fail
  refine (Unseal_any _ _ (zs.take k) w1 HT.out (Nat.le_refl _) HTB.out htl).mono ?_
  rw [h20]
  rintro e w2 ⟨v2, rfl, _, hb2⟩
  have hb02 := hb1.trans (hb2.mono hs1)
  have hs2 := hb02.size
  go_wp2_with fail
  refine (alive_any w2).mono ?_
  rintro e w3 ⟨rfl, hb3⟩
  go_wp2_with fail
  go_ret
  exact ⟨rfl, hb02.trans (hb3.mono hs2)⟩
end Go.Proofs.Ytidnhldjnbpafab
