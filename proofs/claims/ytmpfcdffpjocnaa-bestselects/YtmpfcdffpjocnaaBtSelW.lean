/- BestSelects, BestTwice: the laws' own walks. -/
import Derived.Test.YtmpfcdffpjocnaaBtAlive
import Derived.Test.YtmpfcdffpjocnaaBtRef
namespace Go.Proofs.Ytmpfcdffpjocnaa
open Go.RowKit Go.Lib Nums Pm
set_option maxRecDepth 100000
namespace Bt
theorem best_small (k : Int) (l : List Mt) : (bestF (kk k) l).length ≤ 64 := by rw [bestF_len]; unfold kk; omega
set_option maxHeartbeats 1000000 in
theorem selects_walk (v : Value) (k : Int) (w : World) (l : List Mt) (h : MRow w v l) (hs : ∀ x ∈ l, SmM x) (hl : l.length ≤ 4398046511104) (_ : -9223372036854775808 ≤ k ∧ k ≤ 9223372036854775807) :
    Calls Try.prog 5 #[v, .int .i64 k] w fun e w' => e = .returned (.bool true) ∧ Below w.heap.size w w' := by
  have HROW : Hid (MRow w v l) := h
  have HSM : Hid (∀ x ∈ l, SmM x) := hs
  have HLL : Hid (l.length ≤ 4398046511104) := hl
  obtain ⟨L, hL⟩ : ∃ L, bestF (kk k) l = L := ⟨_, rfl⟩
  have HL : Hid (bestF (kk k) l = L) := hL
  have HLS : Hid (L.length < 549755813888) := by have := best_small k l; rw [hL] at this; show L.length < _; omega
  clear h hs hl hL
  go_enter Try.func5, Try.ntmps5
  go_wp2_with (first
    | (go_at_call 10; refine (alive_any w).mono ?_; rintro e w1 ⟨rfl, hb1⟩; have HB1 : Hid (Below w.heap.size w w1) := hb1; clear hb1)
    | (go_at_call 14; refine (Select_any w1 _ l k (HROW.out.below HB1.out) (by have := HLL.out; omega)).mono ?_; rintro e w2 ⟨v2, rfl, hg2, hb2⟩; rw [HL.out] at hg2; have HR2 : Hid (MRow w2 v2 L) := GOwn.reads_m hg2; have HB2 : Hid (Below w.heap.size w w2) := HB1.out.trans (hb2.mono HB1.out.size); clear hb2 hg2)
    | (go_at_call 15; refine (refBest_any w2 _ l k (HROW.out.below HB2.out) HSM.out HLL.out).mono ?_; rintro e w3 ⟨v3, rfl, hg3, hb3⟩; rw [HL.out] at hg3; have HR3 : Hid (MRow w3 v3 L) := GOwn.reads_m hg3; have HR23 : Hid (MRow w3 v2 L) := HR2.out.below hb3; have HB3 : Hid (Below w.heap.size w w3) := HB2.out.trans (hb3.mono HB2.out.size); clear hb3 hg3)
    | (go_at_call 13; refine (same12_any w3 v2 v3 L HR23.out HR3.out HLS.out).mono ?_; rintro e w4 ⟨rfl, q, hq⟩; have HB4 : Hid (Below w.heap.size w w4) := (by rw [hq]; exact belowN HB3.out q); clear hq))
  go_ret
  exact ⟨rfl, HB4.out⟩
/-- What is selected once more. -/
theorem best_again (k : Int) (l : List Mt) : bestF (kk k) (bestF (kk k) l) = bestF (kk k) l := by
  rw [bestF_isort (kk k) (bestF (kk k) l), isort_self (bestF_srt _ _), List.take_of_length_le (by rw [bestF_len]; omega)]
theorem best_fewer (k f : Int) (l : List Mt) (h0 : 0 ≤ f) (hf : f.toNat ≤ (bestF (kk k) l).length) : bestF (kk f) l = (bestF (kk k) l).take f.toNat := by
  have h64 := best_small k l
  have hk : (bestF (kk k) l).length ≤ kk k := by rw [bestF_len]; omega
  have e : kk f = f.toNat := by unfold kk; omega
  rw [bestF_isort, bestF_isort, e, List.take_take, Nat.min_eq_left (by omega)]
theorem best_mem {k : Nat} {l : List Mt} {x : Mt} (h : x ∈ bestF k l) : x ∈ l := by
  rw [bestF_isort] at h
  exact (isort_perm l).mem_iff.1 (List.mem_of_mem_take h)
end Bt
end Go.Proofs.Ytmpfcdffpjocnaa
