/- Does a disk tell what the document says? -/
import Derived.Test.YtpmmpdkeahmdiaaRefAreas
import Derived.Test.YtpmmpdkeahmdiaaRefSyn
import Derived.Test.YtpmmpdkeahmdiaaRead
import Derived.Test.YtpmmpdkeahmdiaaWrAll
import Derived.BigQuiet
namespace Go.Proofs.Ytpmmpdkeahmdiaa
open Go.RowKit Go.Lib
set_option maxRecDepth 100000

attribute [local go_sem ↓] exec_alloc_D exec_box_D exec_load_D exec_store_D
attribute [local go_sem] rdV_cells rdC_0 rdC_1 rdC_2 rdC_3 rdC_4 rdC_5
theorem str_nil : strB [] = ByteArray.mk #[] := by rfl
theorem conv_nil (W : World) : (convert 36 9 (.slice none 0 0)).run Try.prog W = .ok (.string (ByteArray.mk #[])) W := by
  have h : Row 0 W (.slice none 0 0) [] := ⟨none, 0, rfl, Nat.le_refl _, fun _ => rfl, fun h => by simp at h⟩
  have := h.str
  rw [str_nil] at this
  exact this
theorem ver_row {W : World} {b : Nat} {v : List Nat} {t : TypeId} (h : W.heap[b]? = some (.cells (verC v) t (0, 0))) (hv : v.length = 64) : Row W.heap.size W (.slice (some ⟨b, 0, none⟩) 64 64) v := by
  refine ⟨some ⟨b, 0, none⟩, 64, by rw [hv], by omega, (fun h => by cases h), fun _ => ⟨b, 0, rfl, (Array.getElem?_eq_some_iff.1 h).1, fun i hi => ?_⟩⟩
  simp [World.cell?, h, verC, hi]
theorem conv_ver {W : World} {b : Nat} {v : List Nat} {t : TypeId} (h : W.heap[b]? = some (.cells (verC v) t (0, 0))) (hv : v.length = 64) : (convert 36 9 (.slice (some ⟨b, 0, none⟩) 64 64)).run Try.prog W = .ok (.string (strB v)) W := (ver_row h hv).str
theorem NumRow.get {w : World} {v : Value} {xs : List Int} (h : NumRow w v xs) {i : Nat} {x : Int} (hx : xs[i]? = some x) : ∃ g c, v = .slice (some ⟨g, 0, none⟩) xs.length c ∧ g < w.heap.size ∧ w.cell? ⟨g, i, none⟩ = some (.int .u64 x) := by
  rcases h with ⟨rfl, rfl⟩ | ⟨g, cap, rfl, hg, hc⟩
  · simp at hx
  · exact ⟨g, cap, rfl, hg, hc i _ (by rw [List.getElem?_map, hx]; rfl)⟩
set_option maxHeartbeats 1000000 in
theorem stands_any (P : Nat → Prop) (N p : Nat) (d : DS) (fp : List Nat) (rv : Value) (w : World) (h : DiskAt N w p d fp) (hr : RefIs P w rv d) (ho : SecsOk d.secs) (hN : N < 1099511627776) :
    Calls Try.prog 13 #[.pointer (some ⟨p, 0, none⟩), rv] w fun e w' => e = .returned (.bool true) ∧ Below w.heap.size w w' := by
  obtain ⟨ad, n, c, rfl⟩ := hr.form
  have t1 := DskAt.new w (rdOf d) (.slice ad n c)
  obtain ⟨w0, hw0⟩ : ∃ w0, w.alloc (.cells (rdC (rdOf d) (.slice ad n c)) 27) = w0 := ⟨_, rfl⟩
  have HW0 : Hid (w.alloc (.cells (rdC (rdOf d) (.slice ad n c)) 27) = w0) := hw0
  rw [hw0] at t1
  have B0 : Hid (Below w.heap.size w w0) := hw0 ▸ (Below.refl _ w).alloc (Nat.le_refl _) _
  have D0 : Hid (DskAt w0 w.heap.size (rdOf d) (.slice ad n c)) := t1
  have hs0 : w0.heap.size = w.heap.size + 1 := by rw [← hw0]; simp
  have HK : Hid (DsOk N d) := h.ok
  have HO : Hid (SecsOk d.secs) := ho
  have H0 : Hid (DiskAt N w0 p d fp) := h.below B0.out
  have R0 : Hid (RefIs P w0 (rdV (rdOf d) (.slice ad n c)) d) := hr.below B0.out
  clear h hr ho hw0 t1
  go_enter Try.func13, Try.ntmps13
  go_wp2_with fail
  rw [HW0.out]
  refine (Areas_any N p d fp w0 H0.out hN).mono ?_
  rintro e w1 ⟨v5, rfl, hr5, hb1⟩
  have B1 : Hid (Below w.heap.size w w1) := B0.out.trans (hb1.mono (by omega))
  have hD1 := D0.out.below (by omega) hb1
  have hld1 := loadD_at hD1
  have HR5 : Hid (NumRow w1 v5 (areasS d.secs)) := hr5
  have R1 : Hid (RefIs P w1 (rdV (rdOf d) (.slice ad n c)) d) := R0.out.below hb1
  have H1 : Hid (DiskAt N w1 p d fp) := H0.out.below hb1
  have D1 : Hid (DskAt w1 w.heap.size (rdOf d) (.slice ad n c)) := hD1
  have hs1 := hb1.size
  clear HW0 hr5 hb1 hD1 H0 R0
  go_wp2_with fail
  refine (refAreas_any P N d _ w1 R1.out HK.out hN).mono ?_
  rintro e w2 ⟨v6, rfl, hr6, hb2⟩
  have B2 : Hid (Below w.heap.size w w2) := B1.out.trans (hb2.mono (by omega))
  have D2 : Hid (DskAt w2 w.heap.size (rdOf d) (.slice ad n c)) := D1.out.below (by omega) hb2
  have R2 : Hid (RefIs P w2 (rdV (rdOf d) (.slice ad n c)) d) := R1.out.below hb2
  have H2 : Hid (DiskAt N w2 p d fp) := H1.out.below hb2
  have Q5 : Hid (NumRow w2 v5 (areasS d.secs)) := HR5.out.below hb2
  have Q6 : Hid (NumRow w2 v6 (areasS d.secs)) := hr6
  have hs2 := hb2.size
  obtain ⟨A, hA⟩ : ∃ A, areasS d.secs = A := ⟨_, rfl⟩
  rw [hA] at Q5 Q6
  have hAl : A.length < 1099511627776 := by
    rw [← hA, areasS, Lib.compact, compactUpTo, List.length_map]
    have h1 := List.length_filter_le (keeps (d.secs.map (·.area)).toArray) (List.range (d.secs.map (·.area)).length)
    have h2 := HK.out.len
    simp at h1
    simp
    omega
  obtain ⟨ad5, c5, rfl⟩ := Q5.out.form
  obtain ⟨ad6, c6, rfl⟩ := Q6.out.form
  obtain ⟨d0, d1, d2, d3, d4, d5, dz⟩ := D2.out.cells
  have e0 : d.room - (d.secs.length : Int) = (rdOf d).room := rfl
  have e1 : d.steps = (rdOf d).steps := rfl
  have e2 : d.dead = (rdOf d).dead := rfl
  clear hr6 hb2 hld1 R1 H1 D1 HR5 B0 D0 hA
  go_wp2_with fail
  go_quiet (first | (go_at_call 42; refine Calls.quiet_of (Room_any N p d fp _ (H2.out.same fun _ _ => rfl))) | (go_at_call 33; refine Calls.quiet_of_same (Steps_any N p d fp _ (H2.out.same fun _ _ => rfl))) | (go_at_call 27; refine Calls.quiet_of_same (Dead_any N p d fp _ (H2.out.same fun _ _ => rfl))))
  obtain ⟨w3, hw3⟩ : ∃ w3, w2.drewN nq = w3 := ⟨_, rfl⟩
  rw [hw3]
  have B3 : Hid (Below w.heap.size w w3) := hw3 ▸ below_drewN B2.out nq
  have D3 : Hid (DskAt w3 w.heap.size (rdOf d) (.slice ad n c)) := hw3 ▸ D2.out
  have R3 : Hid (RefIs P w3 (rdV (rdOf d) (.slice ad n c)) d) := hw3 ▸ R2.out.below (below_drewN (Below.refl _ w2) nq)
  have H3 : Hid (DiskAt N w3 p d fp) := hw3 ▸ H2.out.below (below_drewN (Below.refl _ w2) nq)
  have P5 : Hid (NumRow w3 (.slice ad5 A.length c5) A) := hw3 ▸ Q5.out.below (below_drewN (Below.refl _ w2) nq)
  have P6 : Hid (NumRow w3 (.slice ad6 A.length c6) A) := hw3 ▸ Q6.out.below (below_drewN (Below.refl _ w2) nq)
  have hs3 : w.heap.size < w3.heap.size := D3.out.lt
  clear hw3 B2 D2 R2 H2 Q5 Q6 d0 d1 d2 d3 d4 d5 dz e0 e1 e2
  go_wp2_with fail
  go_loopw [49] (fun v wr => ∃ i : Nat, v = .int .i64 i ∧ i ≤ A.length ∧ Below w3.heap.size w3 wr) (fun v _ => A.length - (intOf v).toNat)
  case atStart => exact ⟨0, rfl, Nat.zero_le _, Below.refl _ _⟩
  case round =>
    obtain ⟨i, rfl, hi, hbr⟩ := hrel
    have BR : Hid (Below w3.heap.size w3 wr) := hbr
    clear hbr
    by_cases hin : i < A.length
    · obtain ⟨a, ha⟩ : ∃ a, A[i]? = some a := ⟨_, List.getElem?_eq_getElem hin⟩
      obtain ⟨g5, c5', e5, hg5, hc5⟩ := P5.out.get ha
      obtain ⟨g6, c6', e6, hg6, hc6⟩ := P6.out.get ha
      simp only [Value.slice.injEq] at e5 e6
      obtain ⟨rfl, _, rfl⟩ := e5
      obtain ⟨rfl, _, rfl⟩ := e6
      have hil : (i : Int) < (A.length : Int) := by omega
      have FA : Hid (∀ W, Below w3.heap.size w3 W → W.cell? ⟨g5, i, none⟩ = some (.int .u64 a) ∧ W.cell? ⟨g6, i, none⟩ = some (.int .u64 a) ∧ loadD Try.prog (.pointer (some ⟨w.heap.size, 0, none⟩)) W = .ok (rdV (rdOf d) (.slice ad n c)) W) := fun W hW =>
        ⟨(hW.cell (p := ⟨g5, i, none⟩) hg5).trans hc5, (hW.cell (p := ⟨g6, i, none⟩) hg6).trans hc6, loadD_at (D3.out.below hs3 hW)⟩
      clear ha hc5 hc6
      go_wp2_with fail
      have HS : Below w3.heap.size w3 wr.drew := BR.out.drew
      refine region_at (S := fun W => Below w3.heap.size w3 W) 24 rfl (by kernel_rfl) HS (fun hHeld => ?_)
      refine take_at (i := 0) 52 rfl rfl (by kernel_rfl) (by kernel_rfl) (by kernel_rfl) (fun _ _ _ h => h) (by rfl) (fun w hSw => by (have hSw2 := FA.out _ hSw; clear hSw; go_simp; first | done | exact rfl)) (by assumption) ?_
      simp only [List.setIfInBounds_toArray, List.set_cons_zero, List.set_cons_succ]
      refine take_at (i := 1) 53 rfl rfl (by kernel_rfl) (by kernel_rfl) (by kernel_rfl) (fun _ _ _ h => h) (by rfl) (fun w hSw => by (have hSw2 := FA.out _ hSw; clear hSw; go_simp; first | done | exact rfl)) (by assumption) ?_
      simp only [List.setIfInBounds_toArray, List.set_cons_zero, List.set_cons_succ]
      refine take_at (i := 2) 54 rfl rfl (by kernel_rfl) (by kernel_rfl) (by kernel_rfl) (fun _ _ _ h => h) (by rfl) (fun w hSw => by (have hSw2 := FA.out _ hSw; clear hSw; go_simp; first | done | exact rfl)) (by assumption) ?_
      simp only [List.setIfInBounds_toArray, List.set_cons_zero, List.set_cons_succ]
      refine take_at (i := 3) 55 rfl rfl (by kernel_rfl) (by kernel_rfl) (by kernel_rfl) (fun _ _ _ h => h) (by rfl) (fun w hSw => by (have hSw2 := FA.out _ hSw; clear hSw; go_simp; first | done | exact rfl)) (by assumption) ?_
      simp only [List.setIfInBounds_toArray, List.set_cons_zero, List.set_cons_succ]
      refine take_at (i := 4) 56 rfl rfl (by kernel_rfl) (by kernel_rfl) (by kernel_rfl) (fun _ _ _ h => h) (by rfl) (fun w hSw => by (have hSw2 := FA.out _ hSw; clear hSw; go_simp; first | done | exact rfl)) (by assumption) ?_
      simp only [List.setIfInBounds_toArray, List.set_cons_zero, List.set_cons_succ]
      refine take_at (i := 5) 57 rfl rfl (by kernel_rfl) (by kernel_rfl) (by kernel_rfl) (fun _ _ _ h => h) (by rfl) (fun w hSw => by (have hSw2 := FA.out _ hSw; clear hSw; go_simp; first | done | exact rfl)) (by assumption) ?_
      simp only [List.setIfInBounds_toArray, List.set_cons_zero, List.set_cons_succ]
      refine take_at (i := 6) 58 rfl rfl (by kernel_rfl) (by kernel_rfl) (by kernel_rfl) (fun _ _ _ h => h) (by rfl) (fun w hSw => by (have hSw2 := FA.out _ hSw; clear hSw; go_simp; first | done | exact rfl)) (by assumption) ?_
      simp only [List.setIfInBounds_toArray, List.set_cons_zero, List.set_cons_succ]
      refine take_at (i := 7) 59 rfl rfl (by kernel_rfl) (by kernel_rfl) (by kernel_rfl) (fun _ _ _ h => h) (by rfl) (fun w hSw => by (have hSw2 := FA.out _ hSw; clear hSw; go_simp; first | done | exact rfl)) (by assumption) ?_
      simp only [List.setIfInBounds_toArray, List.set_cons_zero, List.set_cons_succ]
      refine take_at (i := 8) 60 rfl rfl (by kernel_rfl) (by kernel_rfl) (by kernel_rfl) (fun _ _ _ h => h) (by rfl) (fun w hSw => by (have hSw2 := FA.out _ hSw; clear hSw; go_simp; first | done | exact rfl)) (by assumption) ?_
      simp only [List.setIfInBounds_toArray, List.set_cons_zero, List.set_cons_succ]
      refine take_at (i := 9) 61 rfl rfl (by kernel_rfl) (by kernel_rfl) (by kernel_rfl) (fun _ _ _ h => h) (by rfl) (fun w hSw => by (have hSw2 := FA.out _ hSw; clear hSw; go_simp; first | done | exact rfl)) (by assumption) ?_
      simp only [List.setIfInBounds_toArray, List.set_cons_zero, List.set_cons_succ]
      refine take_at (i := 10) 62 rfl rfl (by kernel_rfl) (by kernel_rfl) (by kernel_rfl) (fun _ _ _ h => h) (by rfl) (fun w hSw => by (have hSw2 := FA.out _ hSw; clear hSw; go_simp; first | done | exact rfl)) (by assumption) ?_
      simp only [List.setIfInBounds_toArray, List.set_cons_zero, List.set_cons_succ]
      refine take_at (i := 11) 63 rfl rfl (by kernel_rfl) (by kernel_rfl) (by kernel_rfl) (fun _ _ _ h => h) (by rfl) (fun w hSw => by (have hSw2 := FA.out _ hSw; clear hSw; go_simp; first | done | exact rfl)) (by assumption) ?_
      simp only [List.setIfInBounds_toArray, List.set_cons_zero, List.set_cons_succ]
      refine take_at (i := 12) 64 rfl rfl (by kernel_rfl) (by kernel_rfl) (by kernel_rfl) (fun _ _ _ h => h) (by rfl) (fun w hSw => by (have hSw2 := FA.out _ hSw; clear hSw; go_simp; first | done | exact rfl)) (by assumption) ?_
      simp only [List.setIfInBounds_toArray, List.set_cons_zero, List.set_cons_succ]
      refine take_at (i := 13) 65 rfl rfl (by kernel_rfl) (by kernel_rfl) (by kernel_rfl) (fun _ _ _ h => h) (by rfl) (fun w hSw => by (have hSw2 := FA.out _ hSw; clear hSw; go_simp; first | done | exact rfl)) (by assumption) ?_
      simp only [List.setIfInBounds_toArray, List.set_cons_zero, List.set_cons_succ]
      refine take_at (i := 14) 66 rfl rfl (by kernel_rfl) (by kernel_rfl) (by kernel_rfl) (fun _ _ _ h => h) (by rfl) (fun w hSw => by (have hSw2 := FA.out _ hSw; clear hSw; go_simp; first | done | exact rfl)) (by assumption) ?_
      simp only [List.setIfInBounds_toArray, List.set_cons_zero, List.set_cons_succ]
      refine take_at (i := 16) (v := rdV (rdOf d) (.slice ad n c)) 68 rfl rfl (by kernel_rfl) (by kernel_rfl) (by kernel_rfl) (fun _ _ _ h => h) (by rfl) (fun W hSw => ?_) (by assumption) ?_
      · refine (exec_load_D _ (.tmp 3) _ _ _ _ _ W).trans ?_
        show Result.andThen (loadD Try.prog (.pointer (some ⟨w.heap.size, 0, none⟩)) W) _ = _
        rw [(FA.out _ hSw).2.2]
        rfl
      simp only [List.setIfInBounds_toArray, List.set_cons_zero, List.set_cons_succ]
      refine take_at (i := 17) 69 rfl rfl (by kernel_rfl) (by kernel_rfl) (by kernel_rfl) (fun _ _ _ h => h) (by rfl) (fun w hSw => by (have hSw2 := FA.out _ hSw; clear hSw; go_simp; first | done | exact rfl)) (by assumption) ?_
      simp only [List.setIfInBounds_toArray, List.set_cons_zero, List.set_cons_succ]
      refine take_at (i := 18) 70 rfl rfl (by kernel_rfl) (by kernel_rfl) (by kernel_rfl) (fun _ _ _ h => h) (by rfl) (fun w hSw => by (have hSw2 := FA.out _ hSw; clear hSw; go_simp; first | done | exact rfl)) (by assumption) ?_
      simp only [List.setIfInBounds_toArray, List.set_cons_zero, List.set_cons_succ]
      refine take_at (i := 19) 71 rfl rfl (by kernel_rfl) (by kernel_rfl) (by kernel_rfl) (fun _ _ _ h => h) (by rfl) (fun w hSw => by (have hSw2 := FA.out _ hSw; clear hSw; go_simp; first | done | exact rfl)) (by assumption) ?_
      simp only [List.setIfInBounds_toArray, List.set_cons_zero, List.set_cons_succ]
      refine take_at (i := 20) 72 rfl rfl (by kernel_rfl) (by kernel_rfl) (by kernel_rfl) (fun _ _ _ h => h) (by rfl) (fun w hSw => by (have hSw2 := FA.out _ hSw; clear hSw; go_simp; first | done | exact rfl)) (by assumption) ?_
      simp only [List.setIfInBounds_toArray, List.set_cons_zero, List.set_cons_succ]
      refine one_call (i := 15) (w0 := wr.drew) 67 43 #[.pointer (some ⟨p, 0, none⟩), .int .u64 a] (by kernel_rfl) rfl rfl (by rfl) (by kernel_rfl) ?_
      refine (Sectors_any N p d fp a wr.drew (H3.out.below hHeld) HO.out).mono ?_
      rintro e w4 ⟨rfl, hb4⟩
      have hS4 : Below w3.heap.size w3 w4 := hHeld.trans (hb4.mono hHeld.size)
      refine ⟨_, rfl, hS4, fun _ => ?_⟩
      simp only [List.setIfInBounds_toArray, List.set_cons_zero, List.set_cons_succ]
      refine one_call (i := 21) (w0 := w4) 73 44 #[rdV (rdOf d) (.slice ad n c), .int .u64 a] (by kernel_rfl) rfl rfl (by rfl) (by kernel_rfl) ?_
      refine (refSectors_any P N d _ a w4 (R3.out.below hS4) HK.out hN HO.out).mono ?_
      rintro e w5 ⟨rfl, hb5⟩
      have hS5 : Below w3.heap.size w3 w5 := hS4.trans (hb5.mono hS4.size)
      refine ⟨_, rfl, hS5, fun _ => ?_⟩
      simp only [List.setIfInBounds_toArray, List.set_cons_zero, List.set_cons_succ]
      refine one_value (i := 22) (v := .bool false) (w' := w5) 74 (by kernel_rfl) rfl rfl (by rfl) (by go_simp; first | done | exact rfl) hS5 (fun _ => ?_)
      simp only [List.setIfInBounds_toArray, List.set_cons_zero, List.set_cons_succ]
      refine one_value (i := 23) (v := .bool false) (w' := w5) 75 (by kernel_rfl) rfl rfl (by rfl) (by go_simp; first | done | exact rfl) hS5 (fun _ => ?_)
      simp only [List.setIfInBounds_toArray, List.set_cons_zero, List.set_cons_succ]
      refine wpAnyH_done (by kernel_rfl) ?_ _
      have B5 : Hid (Below w3.heap.size w3 w5) := hS5
      obtain ⟨E, hE⟩ : ∃ E, endS a d.secs = E := ⟨_, rfl⟩
      have HEE : Hid (endS a d.secs = E) := hE
      rw [hE]
      have hE0 : 0 ≤ E ∧ E ≤ 16777216 := by
        rw [← hE]
        exact ⟨topS_nonneg _, topS_le _ _ (by omega) fun k hk => by
          obtain ⟨s, hs, rfl⟩ := List.mem_map.1 hk
          have := (HO.out s (List.mem_filter.1 hs).1).2
          omega⟩
      clear hHeld hS4 hb4 hb5 hS5 hE HS
      obtain ⟨M, hM⟩ : ∃ M, min E 40 = M := ⟨_, rfl⟩
      have hM1 : (if 40 < E then 40 else E) = M := by rw [← hM]; split <;> omega
      have hM2 : (if E < 40 then E else 40) = M := by rw [← hM]; split <;> omega
      have hM3 : 0 ≤ M ∧ M ≤ 40 := by omega
      have HM : Hid (min E 40 = M) := hM
      clear hM
      go_wp2_with fail
      go_loopw [8] (fun v wr => ∃ k : Nat, v = .int .i64 ((k : Int) - 1) ∧ (k : Int) ≤ M + 2 ∧ Below w3.heap.size w3 wr) (fun v _ => (60 - intOf v).toNat)
      case atStart => exact ⟨0, rfl, by omega, B5.out⟩
      case round =>
        obtain ⟨k, rfl, hk, hbr⟩ := hrel
        have BR : Hid (Below w3.heap.size w3 wr) := hbr
        obtain ⟨q5, q6, hldr⟩ := FA.out wr hbr
        have HR3 := H3.out.below hbr
        clear hbr
        go_wp2_with fail
        refine (Sectors_any N p d fp a wr HR3 HO.out).mono ?_
        rintro e w6 ⟨rfl, hb6⟩
        rw [HEE.out]
        have B6 : Hid (Below w3.heap.size w3 w6) := BR.out.trans (hb6.mono BR.out.size)
        clear q5 q6 hldr hb6 HR3
        obtain ⟨q5, q6, hldr⟩ := FA.out w6 B6.out
        by_cases hkM : (k : Int) - 1 ≤ M
        · go_wp2_with fail
          refine (Read_any N p d fp a ((k : Int) - 1) w6 (H3.out.below B6.out) (by omega)).mono ?_
          rintro e w7 ⟨hb7, hcase⟩
          have B7 : Below w3.heap.size w3 w7 := B6.out.trans (hb7.mono B6.out.size)
          have HB7 : Hid (Below w3.heap.size w3 w7) := B7
          obtain ⟨o, ho⟩ : ∃ o, curOf d.secs a ((k : Int) - 1) = o := ⟨_, rfl⟩
          rw [ho] at hcase
          obtain ⟨xv, yv, bq, hret, hyv, hcv⟩ : ∃ (xv : Value) (ys : ByteArray) (bq : Bool), e = .returned (.tuple #[xv, .bool bq]) ∧ readV o = .tuple #[.string ys, .bool bq] ∧ ∀ W, Below w7.heap.size w7 W → (convert 36 9 xv).run Try.prog W = .ok (.string ys) W := by
            rcases hcase with ⟨rfl, he⟩ | ⟨v, b, rfl, hv, he, hbb, hblk⟩
            · exact ⟨_, _, _, he, rfl, fun W _ => conv_nil W⟩
            · exact ⟨_, _, _, he, rfl, fun W hW => conv_ver ((hW.block b (Array.getElem?_eq_some_iff.1 hblk).1).trans hblk) hv⟩
          subst hret
          have HCV : Hid (∀ W, Below w7.heap.size w7 W → (convert 36 9 xv).run Try.prog W = .ok (.string yv) W) := hcv
          have HYV : Hid (readV (curOf d.secs a ((k : Int) - 1)) = .tuple #[.string yv, .bool bq]) := by show _ = _; rw [ho, hyv]
          clear hb7 hcase hcv hyv ho q5 q6 hldr B7
          go_wp2_with fail
          have HS : Below w7.heap.size w7 w7.drew := (Below.refl _ w7).drew
          have FB : Hid (∀ W, Below w7.heap.size w7 W → W.cell? ⟨g5, i, none⟩ = some (.int .u64 a) ∧ W.cell? ⟨g6, i, none⟩ = some (.int .u64 a) ∧ loadD Try.prog (.pointer (some ⟨w.heap.size, 0, none⟩)) W = .ok (rdV (rdOf d) (.slice ad n c)) W) := fun W hW => FA.out W (HB7.out.trans (hW.mono HB7.out.size))
          refine region_at (S := fun W => Below w7.heap.size w7 W) 12 rfl (by kernel_rfl) HS (fun hHeld => ?_)
          refine take_at (i := 0) (v := rdV (rdOf d) (.slice ad n c)) 98 rfl rfl (by kernel_rfl) (by kernel_rfl) (by kernel_rfl) (fun _ _ _ h => h) (by rfl) (fun W hSw => ?_) (by assumption) ?_
          · refine (exec_load_D _ (.tmp 3) _ _ _ _ _ W).trans ?_
            show Result.andThen (loadD Try.prog (.pointer (some ⟨w.heap.size, 0, none⟩)) W) _ = _
            rw [(FB.out _ hSw).2.2]
            rfl
          simp only [List.setIfInBounds_toArray, List.set_cons_zero, List.set_cons_succ]
          refine take_at (i := 1) 99 rfl rfl (by kernel_rfl) (by kernel_rfl) (by kernel_rfl) (fun _ _ _ h => h) (by rfl) (fun w hSw => by (have hSw2 := FB.out _ hSw; clear hSw; go_simp; first | done | exact rfl)) (by assumption) ?_
          simp only [List.setIfInBounds_toArray, List.set_cons_zero, List.set_cons_succ]
          refine take_at (i := 2) 100 rfl rfl (by kernel_rfl) (by kernel_rfl) (by kernel_rfl) (fun _ _ _ h => h) (by rfl) (fun w hSw => by (have hSw2 := FB.out _ hSw; clear hSw; go_simp; first | done | exact rfl)) (by assumption) ?_
          simp only [List.setIfInBounds_toArray, List.set_cons_zero, List.set_cons_succ]
          refine take_at (i := 3) 101 rfl rfl (by kernel_rfl) (by kernel_rfl) (by kernel_rfl) (fun _ _ _ h => h) (by rfl) (fun w hSw => by (have hSw2 := FB.out _ hSw; clear hSw; go_simp; first | done | exact rfl)) (by assumption) ?_
          simp only [List.setIfInBounds_toArray, List.set_cons_zero, List.set_cons_succ]
          refine take_at (i := 4) 102 rfl rfl (by kernel_rfl) (by kernel_rfl) (by kernel_rfl) (fun _ _ _ h => h) (by rfl) (fun w hSw => by (have hSw2 := FB.out _ hSw; clear hSw; go_simp; first | done | exact rfl)) (by assumption) ?_
          simp only [List.setIfInBounds_toArray, List.set_cons_zero, List.set_cons_succ]
          refine take_at (i := 5) 103 rfl rfl (by kernel_rfl) (by kernel_rfl) (by kernel_rfl) (fun _ _ _ h => h) (by rfl) (fun w hSw => by (have hSw2 := FB.out _ hSw; clear hSw; go_simp; first | done | exact rfl)) (by assumption) ?_
          simp only [List.setIfInBounds_toArray, List.set_cons_zero, List.set_cons_succ]
          refine one_call (i := 6) (w0 := w7.drew) 104 32 #[rdV (rdOf d) (.slice ad n c), .int .u64 a, .int .i64 ((k : Int) - 1)] (by kernel_rfl) rfl rfl (by rfl) (by kernel_rfl) ?_
          refine (refRead_any P N d _ a ((k : Int) - 1) w7.drew (R3.out.below (HB7.out.trans (hHeld.mono HB7.out.size))) HK.out hN).mono ?_
          rintro e w8 ⟨rfl, hb8⟩
          have hS8 : Below w7.heap.size w7 w8 := hHeld.trans (hb8.mono hHeld.size)
          rw [HYV.out]
          refine ⟨_, rfl, hS8, fun _ => ?_⟩
          simp only [List.setIfInBounds_toArray, List.set_cons_zero, List.set_cons_succ]
          refine one_value (i := 7) (v := .tuple #[.string yv, .bool bq]) (w' := w8) 97 (by kernel_rfl) rfl rfl (by rfl) (by kernel_rfl) hS8 (fun _ => ?_)
          simp only [List.setIfInBounds_toArray, List.set_cons_zero, List.set_cons_succ]
          refine take_at (i := 8) 105 rfl rfl (by kernel_rfl) (by kernel_rfl) (by kernel_rfl) (fun _ _ _ h => h) (by rfl) (fun w hSw => by (have hSw2 := FB.out _ hSw; clear hSw; go_simp; first | done | exact rfl)) (by assumption) ?_
          simp only [List.setIfInBounds_toArray, List.set_cons_zero, List.set_cons_succ]
          refine take_at (i := 9) 106 rfl rfl (by kernel_rfl) (by kernel_rfl) (by kernel_rfl) (fun _ _ _ h => h) (by rfl) (fun w hSw => by (have hSw2 := FB.out _ hSw; clear hSw; go_simp; first | done | exact rfl)) (by assumption) ?_
          simp only [List.setIfInBounds_toArray, List.set_cons_zero, List.set_cons_succ]
          refine one_value (i := 10) (v := .string yv) (w' := w8) 11 (by kernel_rfl) rfl rfl (by rfl) (by kernel_rfl) hS8 (fun _ => ?_)
          simp only [List.setIfInBounds_toArray, List.set_cons_zero, List.set_cons_succ]
          refine one_value (i := 11) (v := .bool bq) (w' := w8) 12 (by kernel_rfl) rfl rfl (by rfl) (by kernel_rfl) hS8 (fun _ => ?_)
          simp only [List.setIfInBounds_toArray, List.set_cons_zero, List.set_cons_succ]
          refine wpAnyH_done (by kernel_rfl) ?_ _
          have hcv8 := HCV.out w8 hS8
          have B8 : Hid (Below w3.heap.size w3 w8) := HB7.out.trans (hS8.mono HB7.out.size)
          clear hHeld hb8 hS8 HS
          go_wp2_with fail
          go_roundw
          case rel => exact ⟨k + 1, by go_num, by omega, B8.out⟩
          case measure => simp [intOf]; omega
        · go_wp2_with fail
          go_roundw
          case rel => exact ⟨i + 1, by go_num, by omega, B6.out⟩
          case measure => simp [intOf]; omega
    · have hxn : ¬ ((i : Int) < (A.length : Int)) := by omega
      obtain ⟨d0, d1, d2, d3, d4, d5, dz⟩ := (D3.out.below hs3 BR.out).cells
      obtain ⟨l, X, el, hSX, hX⟩ := R3.out
      have el' : l = .slice ad n c := by
        have := congrArg (fun v => match v with | .agg a => a[5]? | _ => none) el
        simpa [rdV] using this.symm
      subst el'
      obtain ⟨_, _, eX, hXl, hcs, hok⟩ := id hSX
      simp only [Value.slice.injEq] at eX
      obtain ⟨rfl, rfl, rfl⟩ := eX
      have HSX : Hid (SecRow P w3 (.slice ad X.length c) X) := hSX
      have HXX : Hid (X.map RX.s = d.secs.map toRS) := hX
      clear d0 d1 d2 d3 d4 el hcs hok hSX hX
      go_wp2_with fail
      go_loopw [120] (fun v wr => ∃ i : Nat, v = .int .i64 i ∧ i ≤ X.length ∧ Below w3.heap.size w3 wr) (fun v _ => X.length - (intOf v).toNat)
      case atStart => exact ⟨0, rfl, Nat.zero_le _, BR.out⟩
      case round =>
        obtain ⟨j, rfl, hj, hbr⟩ := hrel
        have BQ : Hid (Below w3.heap.size w3 wr) := hbr
        clear hbr
        by_cases hjn : j < X.length
        · obtain ⟨_, _, eX, _, hcs, hok⟩ := id HSX.out
          obtain ⟨g, hg0, _, hg, hx4⟩ := hcs (by omega)
          simp only [Value.slice.injEq] at eX
          rw [← eX.1] at hg0
          subst hg0
          obtain ⟨x, hx⟩ : ∃ x, X[j]? = some x := ⟨_, List.getElem?_eq_getElem hjn⟩
          obtain ⟨x0, x1, x2, x3⟩ := (hx4 j x hx).below hg BQ.out
          have hxm := List.mem_of_getElem? hx
          have HXO : Hid (x.ok P w3) := hok x hxm
          obtain ⟨⟨xh, xc, exl, _, _, _⟩, _⟩ := id (hok x hxm)
          rw [exl] at x2
          have HV : Hid (x.val = .agg #[.int .u64 x.s.area, .int .i64 x.s.n, .slice (some ⟨xh, 0, none⟩) x.s.vs.length xc, .bool x.s.sy]) := by show _ = _; unfold RX.val; rw [exl]
          obtain ⟨u, hu⟩ : ∃ u, x.s.vs.getLastD [] = u := ⟨_, rfl⟩
          have HU : Hid (x.s.vs.getLastD [] = u) := hu
          have HC : Hid (curOf d.secs x.s.area x.s.n = some u) := by
            obtain ⟨s, h1, h2⟩ := is_find HK.out.sorted HXX.out hxm
            show _ = _
            rw [curOf, h1, Option.bind_some, cur_last s (HK.out.there s (findS_mem h1)), h2, hu]
          have hjl : (j : Int) < (X.length : Int) := by omega
          clear hcs hok hx4 eX hxm hx exl hu
          go_wp2_with fail
          obtain ⟨wx, hwx⟩ : ∃ wx, wr.alloc (.cells #[.int .u64 x.s.area, .int .i64 x.s.n, .slice (some ⟨xh, 0, none⟩) x.s.vs.length xc, .bool x.s.sy] 95) = wx := ⟨_, rfl⟩
          rw [hwx]
          have hbx : wx.heap[wr.heap.size]? = some (.cells #[.int .u64 x.s.area, .int .i64 x.s.n, .slice (some ⟨xh, 0, none⟩) x.s.vs.length xc, .bool x.s.sy] 95 (0, 0)) := hwx ▸ alloc_new _ _
          have hsx : wx.heap.size = wr.heap.size + 1 := by rw [← hwx]; simp
          have BX : Hid (Below w3.heap.size w3 wx) := hwx ▸ BQ.out.alloc BQ.out.size _
          clear hwx
          refine (Read_any N p d fp x.s.area x.s.n wx (H3.out.below BX.out) (by omega)).mono ?_
          rintro e w7 ⟨hb7, hcase⟩
          rw [HC.out] at hcase
          rcases hcase with ⟨h, _⟩ | ⟨v, b, hv1, hv, rfl, hbb, hblk⟩
          · cases h
          obtain rfl := Option.some.inj hv1
          have B7 : Hid (Below w3.heap.size w3 w7) := BX.out.trans (hb7.mono BX.out.size)
          have FC : Hid (∀ W, Below w7.heap.size w7 W → (convert 36 9 (.slice (some ⟨b, 0, none⟩) 64 64)).run Try.prog W = .ok (.string (strB u)) W ∧ W.cell? ⟨wr.heap.size, 0, none⟩ = some (.int .u64 x.s.area) ∧ W.cell? ⟨wr.heap.size, 1, none⟩ = some (.int .i64 x.s.n) ∧ W.cell? ⟨wr.heap.size, 2, none⟩ = some (.slice (some ⟨xh, 0, none⟩) x.s.vs.length xc) ∧ W.cell? ⟨wr.heap.size, 3, none⟩ = some (.bool x.s.sy)) := fun W hW => by
            obtain ⟨f0, f1, f2, f3, _⟩ := four_cells ((hW.block wr.heap.size (by have := hb7.size; omega)).trans ((hb7.block wr.heap.size (by omega)).trans hbx))
            exact ⟨conv_ver ((hW.block b (Array.getElem?_eq_some_iff.1 hblk).1).trans hblk) hv, f0, f1, f2, f3⟩
          clear hb7 hbx hbb hblk hv hv1 x0 x1 x2 x3
          go_wp2_with fail
          have HS : Below w7.heap.size w7 w7.drew := (Below.refl _ w7).drew
          refine region_at (S := fun W => Below w7.heap.size w7 W) 9 rfl (by kernel_rfl) HS (fun hHeld => ?_)
          refine take_at (i := 0) 133 rfl rfl (by kernel_rfl) (by kernel_rfl) (by kernel_rfl) (fun _ _ _ h => h) (by rfl) (fun w hSw => by (have hSw2 := FC.out _ hSw; clear hSw; go_simp; first | done | exact rfl)) (by assumption) ?_
          simp only [List.setIfInBounds_toArray, List.set_cons_zero, List.set_cons_succ]
          refine take_at (i := 1) 134 rfl rfl (by kernel_rfl) (by kernel_rfl) (by kernel_rfl) (fun _ _ _ h => h) (by rfl) (fun w hSw => by (have hSw2 := FC.out _ hSw; clear hSw; go_simp; first | done | exact rfl)) (by assumption) ?_
          simp only [List.setIfInBounds_toArray, List.set_cons_zero, List.set_cons_succ]
          refine take_at (i := 2) 135 rfl rfl (by kernel_rfl) (by kernel_rfl) (by kernel_rfl) (fun _ _ _ h => h) (by rfl) (fun w hSw => by (have hSw2 := FC.out _ hSw; clear hSw; go_simp; first | done | exact rfl)) (by assumption) ?_
          simp only [List.setIfInBounds_toArray, List.set_cons_zero, List.set_cons_succ]
          refine take_at (i := 3) 136 rfl rfl (by kernel_rfl) (by kernel_rfl) (by kernel_rfl) (fun _ _ _ h => h) (by rfl) (fun w hSw => by (have hSw2 := FC.out _ hSw; clear hSw; go_simp; first | done | exact rfl)) (by assumption) ?_
          simp only [List.setIfInBounds_toArray, List.set_cons_zero, List.set_cons_succ]
          refine take_at (i := 4) 137 rfl rfl (by kernel_rfl) (by kernel_rfl) (by kernel_rfl) (fun _ _ _ h => h) (by rfl) (fun w hSw => by (have hSw2 := FC.out _ hSw; clear hSw; go_simp; first | done | exact rfl)) (by assumption) ?_
          simp only [List.setIfInBounds_toArray, List.set_cons_zero, List.set_cons_succ]
          refine take_at (i := 5) 138 rfl rfl (by kernel_rfl) (by kernel_rfl) (by kernel_rfl) (fun _ _ _ h => h) (by rfl) (fun w hSw => by (have hSw2 := FC.out _ hSw; clear hSw; go_simp; first | done | exact rfl)) (by assumption) ?_
          simp only [List.setIfInBounds_toArray, List.set_cons_zero, List.set_cons_succ]
          refine one_call (i := 6) (w0 := w7.drew) 139 45 #[.agg #[.int .u64 x.s.area, .int .i64 x.s.n, .slice (some ⟨xh, 0, none⟩) x.s.vs.length xc, .bool x.s.sy]] (by kernel_rfl) rfl rfl (by rfl) (by kernel_rfl) ?_
          have hLast := refLast_rx x w7.drew (HXO.out.below (B7.out.trans (hHeld.mono B7.out.size)))
          rw [HV.out, HU.out] at hLast
          refine hLast.mono ?_
          rintro e w8 ⟨rfl, hb8⟩
          have hS8 : Below w7.heap.size w7 w8 := hHeld.trans (hb8.mono hHeld.size)
          refine ⟨_, rfl, hS8, fun _ => ?_⟩
          simp only [List.setIfInBounds_toArray, List.set_cons_zero, List.set_cons_succ]
          refine one_value (i := 7) (v := .bool false) (w' := w8) 140 (by kernel_rfl) rfl rfl (by rfl) (by go_simp; first | done | exact rfl) hS8 (fun _ => ?_)
          simp only [List.setIfInBounds_toArray, List.set_cons_zero, List.set_cons_succ]
          refine one_value (i := 8) (v := .bool false) (w' := w8) 141 (by kernel_rfl) rfl rfl (by rfl) (by go_simp; first | done | exact rfl) hS8 (fun _ => ?_)
          simp only [List.setIfInBounds_toArray, List.set_cons_zero, List.set_cons_succ]
          refine wpAnyH_done (by kernel_rfl) ?_ _
          have B8 : Hid (Below w3.heap.size w3 w8) := B7.out.trans (hS8.mono B7.out.size)
          clear hHeld hb8 hS8 HS hLast
          go_wp2_with fail
          go_roundw
          case rel => exact ⟨j + 1, by go_num, by omega, B8.out⟩
          case measure => simp [intOf]; omega
        · have hjn' : ¬ ((j : Int) < (X.length : Int)) := by omega
          go_wp2_with fail
          go_ret
          exact ⟨rfl, B3.out.trans (BQ.out.mono (by omega))⟩
end Go.Proofs.Ytpmmpdkeahmdiaa
