/- disk.Clone: a disk of its own. -/
import Derived.Test.YtpmmpdkeahmdiaaCopyF2
import Derived.Test.YtpmmpdkeahmdiaaCrashAll
namespace Go.Proofs.Ytpmmpdkeahmdiaa
open Go.RowKit
set_option maxRecDepth 100000

theorem rep_of {sh sh' : Sh} {S : List Sec} (h : Rep sh S) (hl : ∀ a n, lget sh' a n = lget sh a n) (hf : ∀ a n, fget sh' a n = fget sh a n) : Rep sh' S :=
  ⟨h.sorted, fun a n => (hl a n).trans (h.last a n), fun a n => (hf a n).trans (h.fresh a n), h.there⟩
theorem fs_small {N : Nat} {sh : Sh} {S : List Sec} {w : World} (hh : Held w sh) (hr : Rep sh S) (hN : ∀ s ∈ S, s.fresh.length ≤ N) : ∀ p ∈ sh.F, ∀ s ∈ p.2.2, s.2.vs.length ≤ N := by
  intro p hp s hs
  have h1 : fsGet sh.F p.1 s.1 = some s.2 := by
    unfold fsGet
    rw [mget_of_mem hh.hf.nodup (show (p.1, p.2) ∈ sh.F from hp)]
    exact mget_of_mem (hh.hfi p hp).1.nodup (show (s.1, s.2) ∈ p.2.2 from hs)
  have h2 := hr.fresh p.1 s.1
  rw [fget_eq, h1] at h2
  simp only [Option.map_some, Option.getD_some] at h2
  rw [h2]
  cases hf : findS p.1 s.1 S with
  | none => simp
  | some t => exact hN t (findS_mem hf)
set_option maxHeartbeats 1000000 in
theorem CloneD_any (N p : Nat) (d : DS) (fp : List Nat) (w : World) (h : DiskAt N w p d fp) (hN : N ≤ 1099511627776) :
    Calls Try.prog 15 #[.pointer (some ⟨p, 0, none⟩)] w fun e w' => ∃ q fq, e = .returned (.pointer (some ⟨q, 0, none⟩)) ∧ DiskAt N w' q d fq ∧ Below w.heap.size w w' ∧ ∀ b ∈ fq, w.heap.size ≤ b := by
  have HD : Hid (DiskAt N w p d fp) := h
  obtain ⟨sh, h1, h2, h3, h4, h5, hnum⟩ := h
  obtain ⟨c0, c1, c2, c3, c4, c5, c6, c7, hz⟩ := disk_cells h1
  have hpl : p < w.heap.size := (Array.getElem?_eq_some_iff.1 h1).1
  have HH : Hid (Held w sh) := h2
  have HR : Hid (Rep sh d.secs) := h3
  have H1 : Hid (w.heap[p]? = some (dC d.room (d.secs.length : Int) d.steps d.dead d.armed d.ahead sh.lb sh.fb)) := h1
  have HNUM : Hid (0 ≤ d.room ∧ d.room ≤ 9223372036854775807 ∧ 0 ≤ d.steps ∧ d.steps ≤ N ∧ d.secs.length ≤ N ∧ (d.secs.length : Int) ≤ d.room ∧ (∀ s ∈ d.secs, s.fresh.length ≤ N) ∧ -9223372036854775808 ≤ d.ahead ∧ d.ahead ≤ 9223372036854775807 ∧ (d.armed = true → 0 ≤ d.ahead)) := hnum
  obtain ⟨w1, hw1⟩ : ∃ w1, w.alloc (dC d.room (d.secs.length : Int) d.steps d.dead d.armed d.ahead sh.lb sh.fb) = w1 := ⟨_, rfl⟩
  have HW1 : Hid (w.alloc (dC d.room (d.secs.length : Int) d.steps d.dead d.armed d.ahead sh.lb sh.fb) = w1) := hw1
  have hq1 : w1.heap[w.heap.size]? = some (dC d.room (d.secs.length : Int) d.steps d.dead d.armed d.ahead sh.lb sh.fb) := hw1 ▸ alloc_new _ _
  have B1 : Hid (Below w.heap.size w w1) := hw1 ▸ (Below.refl _ w).alloc (Nat.le_refl _) _
  have hs1 : w.heap.size < w1.heap.size := (Array.getElem?_eq_some_iff.1 hq1).1
  have HQ1 : Hid (w1.heap[w.heap.size]? = some (dC d.room (d.secs.length : Int) d.steps d.dead d.armed d.ahead sh.lb sh.fb)) := hq1
  clear h1 h2 h3 h4 h5 hnum hw1 hq1
  go_enter Try.func15, Try.ntmps15
  go_wp2_with fail
  have e1 := HW1.out
  unfold dC at e1
  rw [e1]
  clear e1
  have hlo := HH.out.lt
  refine (copyLasting_any sh.lb sh.L w1 (HH.out.hl.same (B1.out.block _ HH.out.hl.lt)) (fun p hp => (HH.out.hli p hp).1.same (B1.out.block _ (HH.out.hli p hp).1.lt))).mono ?_
  rintro e w2 ⟨mb, M, rfl, ht, hg, hmb, hM, hb2⟩
  have hq2 := (hb2.block w.heap.size hs1).trans HQ1.out
  have hp2 := (hb2.block p (by omega)).trans ((B1.out.block p hpl).trans H1.out)
  obtain ⟨k0, k1, k2, k3, k4, k5, k6, k7, kz⟩ := disk_cells hq2
  obtain ⟨p0, p1, p2, p3, p4, p5, p6, p7, pz⟩ := disk_cells hp2
  have HT : Hid (Two verV w2 mb M ∧ (∀ a, (mget a M).map (·.2) = (mget a sh.L).map (·.2)) ∧ w1.heap.size ≤ mb ∧ (∀ p ∈ M, w1.heap.size ≤ p.2.1) ∧ Below w1.heap.size w1 w2) := ⟨ht, hg, hmb, hM, hb2⟩
  obtain ⟨w3, hw3⟩ : ∃ w3, w2.setCell ⟨w.heap.size, 6, none⟩ (.map (some mb)) = w3 := ⟨_, rfl⟩
  have HW3 : Hid (w2.setCell ⟨w.heap.size, 6, none⟩ (.map (some mb)) = w3) := hw3
  have hs2 := hb2.size
  have hp7 : w3.cell? ⟨p, 7, none⟩ = some (.map (some sh.fb)) := by
    rw [← hw3]
    exact (World.cell?_of_block (a := ⟨p, 7, none⟩) (Below.heap_setCell _ _ _ _ (by show p ≠ w.heap.size; omega))).trans p7
  have hq3 : w3.heap[w.heap.size]? = some (dC d.room (d.secs.length : Int) d.steps d.dead d.armed d.ahead mb sh.fb) := by
    rw [← hw3]
    exact set_cell hq2 6 (.map (some mb))
  have HQ3 : Hid (w3.heap[w.heap.size]? = some (dC d.room (d.secs.length : Int) d.steps d.dead d.armed d.ahead mb sh.fb)) := hq3
  have B3 : Hid (Below w.heap.size w w3) := hw3 ▸ (B1.out.trans (hb2.mono (by omega))).setCell (Nat.le_refl _) _
  have F3 : Hid (∀ k, k ≠ w.heap.size → w3.heap[k]? = w2.heap[k]?) := fun k hk => hw3 ▸ Below.heap_setCell _ _ _ _ hk
  have hs3 : w.heap.size < w3.heap.size := (Array.getElem?_eq_some_iff.1 hq3).1
  clear ht hg hmb hM hb2 hq2 hp2 hw3 hq3 hlo p0 p1 p2 p3 p4 p5 p6
  go_wp2_with fail
  rw [HW3.out]
  clear k0 k1 k2 k3 k4 k5 k6 k7 kz c0 c1 c2 c3 c4 c5 c6 c7 hz p7 pz
  have hL0 : MapAt .u64 inV w3 mb M := HT.out.1.1.same (F3.out mb (by have := HT.out.2.2.1; omega))
  have hLi : ∀ x ∈ M, MapAt .i64 verV w3 x.2.1 x.2.2 ∧ (∀ s ∈ x.2.2, s.2.length = 64) ∧ x.2.2 ≠ [] := fun x hx => by
    refine ⟨(HT.out.1.2.1 x hx).same (F3.out _ (by have := HT.out.2.2.2.1 x hx; omega)), ?_⟩
    have e := HT.out.2.1 x.1
    rw [mget_of_mem HT.out.1.1.nodup (show (x.1, x.2) ∈ M from hx)] at e
    cases hl : mget x.1 sh.L with
    | none => rw [hl] at e; simp at e
    | some y =>
      rw [hl] at e
      simp only [Option.map_some, Option.some.injEq] at e
      obtain ⟨_, h2, h3⟩ := HH.out.hli _ (mem_keys_of_mget hl)
      rw [e]
      exact ⟨h2, h3⟩
  have hnd : (w.heap.size :: mb :: Sh.lblocks M).Nodup := by
    refine List.nodup_cons.2 ⟨fun hm => ?_, HT.out.1.2.2⟩
    rcases List.mem_cons.1 hm with hm | hm
    · have := HT.out.2.2.1; omega
    · obtain ⟨x, hx, e⟩ := List.mem_map.1 hm
      have := HT.out.2.2.2.1 x hx
      omega
  have hfsm := fs_small HH.out HR.out HNUM.out.2.2.2.2.2.2.1
  refine (copyFresh_any w.heap.size mb sh.fb M sh.F w3 (HH.out.hf.same (B3.out.block _ HH.out.hf.lt)) (fun x hx => ⟨(HH.out.hfi x hx).1.same (B3.out.block _ (HH.out.hfi x hx).1.lt), fun s hs => ((HH.out.hfi x hx).2.1 s hs).same (B3.out.block _ ((HH.out.hfi x hx).2.1 s hs).lt), (HH.out.hfi x hx).2.2⟩) (fun x hx s hs => by have := hfsm x hx s hs; omega) hL0 hLi hs3 hnd).mono ?_
  rintro e w4 ⟨mf, MFq, rfl, hcf⟩
  have HCF : Hid (CopyF w3 w.heap.size mb mf M w4 MFq (fun a n => (fsGet sh.F a n).map FS.vs)) := hcf
  have hq4 := (hcf.below.block _ hs3).trans HQ3.out
  obtain ⟨k0, k1, k2, k3, k4, k5, k6, k7, kz⟩ := disk_cells hq4
  have HQ4 : Hid (w4.heap[w.heap.size]? = some (dC d.room (d.secs.length : Int) d.steps d.dead d.armed d.ahead mb sh.fb)) := hq4
  clear hL0 hLi hnd hfsm hcf hq4 k0 k1 k2 k3 k4 k5 k6
  go_wp2_with fail
  go_ret
  have hqq := set_cell HQ4.out 7 (.map (some mf))
  refine ⟨w.heap.size, w.heap.size :: Sh.blocks ⟨mb, mf, M, MFq⟩, rfl, ⟨⟨mb, mf, M, MFq⟩, hqq, ?_, rep_of HR.out (fun a n => ?_) (fun a n => ?_), rfl, HCF.out.nd, HNUM.out⟩, ?_, fun b hb => ?_⟩
  · exact HCF.out.held.same fun b hb => Below.heap_setCell _ _ _ _ fun e => (List.nodup_cons.1 HCF.out.nd).1 (by have e2 : b = w.heap.size := e; rw [← e2]; exact hb)
  · exact copied_get HT.out.2.1 a n
  · rw [fget_eq, fget_eq, HCF.out.get]
  · exact (B3.out.trans (HCF.out.below.mono (by omega))).setCell (Nat.le_refl _) _
  · rcases List.mem_cons.1 hb with rfl | hb
    · exact Nat.le_refl _
    · simp only [Sh.blocks, List.mem_cons, List.mem_append] at hb
      rcases hb with rfl | rfl | hb | hb
      · have := HT.out.2.2.1; omega
      · have := HCF.out.new b (.head _); omega
      · obtain ⟨x, hx, rfl⟩ := List.mem_map.1 hb
        have := HT.out.2.2.2.1 x hx
        omega
      · have := HCF.out.new b (.tail _ hb); omega
end Go.Proofs.Ytpmmpdkeahmdiaa
