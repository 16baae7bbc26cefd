/- The reference of the slot: Save. -/
import Derived.Test.YtpmmpdkeahmdiaaRSaveB
import Derived.Test.YtpmmpdkeahmdiaaSlotS
import Derived.Deep.Cut
import Derived.Deep.CutRange
import Derived.Lib.ConvBytes
import Derived.Laws.AppendOwn
namespace Go.Proofs.Ytpmmpdkeahmdiaa
open Go.RowKit
set_option maxRecDepth 100000

attribute [local go_sem ↓] exec_alloc_D exec_box_D exec_load_D exec_store_D exec_alloc_T exec_box_T exec_load_T exec_store_T exec_build_T0
attribute [local go_sem] rdV_cells rdC_0 rdC_1 rdC_2 rdC_3 rdC_4 rdC_5 rtV_cells
/-- Memory behind the first region. -/
def sv4 (w : World) (r : RD) (l : Value) (q : RT) : World :=
  (((w.alloc (.cells (rdC r l) 27)).alloc (.cells (rtC q) 63)).alloc (.cells (rdC rd0 (.slice none 0 0)) 27)).alloc (.cells (rtC rt0) 63)
/-- The call's own blocks. -/
structure SvI (P : Nat → Prop) (w W : World) (d : DS) (ad : Option Addr) (n c : Nat) (q : RT) : Prop where
  d3 : DskAt W w.heap.size (rdOf d) (.slice ad n c)
  s4 : SltAt W (w.heap.size + 1) q
  d6 : DskAt W (w.heap.size + 1 + 1) rd0 (.slice none 0 0)
  s7 : SltAt W (w.heap.size + 1 + 1 + 1) rt0
  ref : RefIs (fun k => (P k ∧ k < w.heap.size) ∨ w.heap.size + 4 ≤ k) W (rdV (rdOf d) (.slice ad n c)) d
  below : Below w.heap.size w W
theorem SvI.size {P : Nat → Prop} {w W : World} {d : DS} {ad : Option Addr} {n c : Nat} {q : RT} (h : SvI P w W d ad n c q) : w.heap.size + 4 ≤ W.heap.size := by have := h.s7.lt; omega
theorem SvI.then {P : Nat → Prop} {w W W' : World} {d : DS} {ad : Option Addr} {n c : Nat} {q : RT} (h : SvI P w W d ad n c q) (hb : Below W.heap.size W W') : SvI P w W' d ad n c q :=
  ⟨h.d3.below h.d3.lt hb, h.s4.below h.s4.lt hb, h.d6.below h.d6.lt hb, h.s7.below h.s7.lt hb, h.ref.below hb, h.below.trans (hb.mono h.below.size)⟩
theorem SvI.next {P : Nat → Prop} {w W W3 : World} {d d' : DS} {ad ad' : Option Addr} {n c n' c' : Nat} {q : RT} (h : SvI P w W d ad n c q) (hb : Below W.heap.size W W3)
    (hR : RefIs (fun k => ((P k ∧ k < w.heap.size) ∨ w.heap.size + 4 ≤ k) ∨ W.heap.size ≤ k) W3 (rdV (rdOf d') (.slice ad' n' c')) d') : SvI P w (setD W3 w.heap.size (rdOf d') (.slice ad' n' c')) d' ad' n' c' q := by
  have h3 := h.then hb
  have hs := h.size
  have far : ∀ b, b ≠ w.heap.size → (setD W3 w.heap.size (rdOf d') (.slice ad' n' c')).heap[b]? = W3.heap[b]? := fun b hb => setD_far _ _ _ _ _ hb
  refine ⟨h3.d3.set, (far _ (by omega)).trans h3.s4, (far _ (by omega)).trans h3.d6, (far _ (by omega)).trans h3.s7, ?_, setD_below h3.below (Nat.le_refl _) _ _⟩
  refine ((hR.mono fun b _ hb => ?_).same (by rw [setD_size]; exact Nat.le_refl _) fun b hb _ => far b ?_)
  · rcases hb with hb | hb
    · exact hb
    · exact .inr (by omega)
  · rcases hb with hb | hb <;> omega
theorem sv4_at {P : Nat → Prop} (w : World) {d : DS} {ad : Option Addr} {n c : Nat} (q : RT) (h : RefIs P w (rdV (rdOf d) (.slice ad n c)) d) : SvI P w (sv4 w (rdOf d) (.slice ad n c) q) d ad n c q := by
  have hb : Below w.heap.size w (sv4 w (rdOf d) (.slice ad n c) q) := ((((Below.refl _ w).alloc (Nat.le_refl _) _).alloc (by simp) _).alloc (by simp; omega) _).alloc (by simp; omega) _
  refine ⟨(((DskAt.new w (rdOf d) (.slice ad n c)).old _).old _).old _, ?_, ?_, ?_, ?_, hb⟩
  · have := ((SltAt.new (w.alloc (.cells (rdC (rdOf d) (.slice ad n c)) 27)) q).old (.cells (rdC rd0 (.slice none 0 0)) 27)).old (.cells (rtC rt0) 63)
    rwa [alloc_size] at this
  · have := (DskAt.new ((w.alloc (.cells (rdC (rdOf d) (.slice ad n c)) 27)).alloc (.cells (rtC q) 63)) rd0 (.slice none 0 0)).old (.cells (rtC rt0) 63)
    rwa [alloc_size, alloc_size] at this
  · have := SltAt.new (((w.alloc (.cells (rdC (rdOf d) (.slice ad n c)) 27)).alloc (.cells (rtC q) 63)).alloc (.cells (rdC rd0 (.slice none 0 0)) 27)) rt0
    rwa [alloc_size, alloc_size, alloc_size] at this
  · exact ((h.mono fun k hk hP => (⟨hP, hk⟩ : P k ∧ k < w.heap.size)).below hb).mono fun k _ hP => .inl hP
/-- What the walk reads. -/
structure SV (b3 b4 : Nat) (r : RD) (l : Value) (q : RT) (W : World) : Prop where
  d : DskAt W b3 r l
  s : SltAt W b4 q
theorem SV.facts {b3 b4 : Nat} {r : RD} {l : Value} {q : RT} {W : World} (h : SV b3 b4 r l q W) : W.cell? ⟨b4, 0, none⟩ = some (.int .u64 q.area) := h.s.cells.1
theorem SV.off {b3 b4 b6 b7 : Nat} {r : RD} {l : Value} {q : RT} {w W : World} (h : SV b3 b4 r l q w) (ho : TwoOff b6 b7 w W) (h1 : b3 ≠ b6) (h2 : b3 ≠ b7) (h3 : b4 ≠ b6) (h4 : b4 ≠ b7) : SV b3 b4 r l q W := ⟨(ho.far _ h1 h2).trans h.d, (ho.far _ h3 h4).trans h.s⟩
structure SQ (b4 : Nat) (q : RT) (W : World) : Prop where
  s : SltAt W b4 q
theorem SQ.facts {b4 : Nat} {q : RT} {W : World} (h : SQ b4 q W) : W.cell? ⟨b4, 0, none⟩ = some (.int .u64 q.area) := h.s.cells.1
def newT (q : RT) (xs : List Nat) (c : Int) : RT := if c = 0 then ⟨q.area, q.num + 1, strB xs⟩ else q
def RSaved (P : Nat → Prop) (d' : DS) (c : Int) (q : RT) (xs : List Nat) (w : World) (e : Ending) (w' : World) : Prop :=
  ∃ v', e = .returned (.tuple #[v', rtV (newT q xs c), .int .i64 c]) ∧ RefIs (fun b => P b ∨ w.heap.size ≤ b) w' v' d' ∧ Below w.heap.size w w'
theorem SvI.fin {P : Nat → Prop} {w W W' : World} {d : DS} {ad : Option Addr} {n c : Nat} {q : RT} (h : SvI P w W d ad n c q) (ho : TwoOff (w.heap.size + 1 + 1) (w.heap.size + 1 + 1 + 1) W W') (xs : List Nat) (k : Int) :
    RSaved P d k q xs w (.returned (.tuple #[rdV (rdOf d) (.slice ad n c), rtV (newT q xs k), .int .i64 k])) W' := by
  refine ⟨_, rfl, (h.ref.same (Nat.le_of_eq ho.size.symm) fun b hb _ => ho.far b ?_ ?_).mono fun b _ hb => ?_, ho.below _ _ (by omega) (by omega) h.below⟩
  · rcases hb with hb | hb <;> omega
  · rcases hb with hb | hb <;> omega
  · rcases hb with hb | hb
    · exact .inl hb.1
    · exact .inr (by omega)
theorem SvI.drew {P : Nat → Prop} {w W : World} {d : DS} {ad : Option Addr} {n c : Nat} {q : RT} (h : SvI P w W d ad n c q) : SvI P w W.drew d ad n c q := h.then (Below.refl _ W).drew
theorem retS3 {fn : Func} {R : Ending → World → Prop} {a : Act} {w : World} {b b' t t' u : Nat} {r : RD} {ad : Option Addr} {n c : Nat} {q : RT} {x : Value} (hf : fn.results = #[.cell t 27, .cell t' 63, .tmp u]) (ht : a.tmps[t]? = some (.pointer (some ⟨b, 0, none⟩))) (ht' : a.tmps[t']? = some (.pointer (some ⟨b', 0, none⟩))) (hu : a.tmps[u]? = some x)
    (hb : DskAt w b r (.slice ad n c)) (hb' : SltAt w b' q) (hd : a.defers = []) (hR : R (.returned (.tuple #[rdV r (.slice ad n c), rtV q, x])) w) : bodyPost Try.prog fn R .ret a w := by
  obtain ⟨c0, c1, c2, c3, c4, c5, cz⟩ := hb.cells
  obtain ⟨e0, e1, e2, ez⟩ := hb'.cells
  refine bodyPost_ret ?_ hd hR
  unfold rdV rtV
  simp [results, hf, ht, ht', hu, go_sem, c0, c1, c2, c3, c4, c5, e0, e1, e2]
  try rfl
set_option maxHeartbeats 1000000 in
theorem refSave_long (P : Nat → Prop) (d : DS) (v : Value) (q : RT) (xs : List Nat) (w : World) (h : RefIs P w v d) (hlg : 48 < xs.length ∨ q.num = 18446744073709551615) :
    Calls Try.prog 31 #[v, rtV q, .string (strB xs)] w (RSaved P (saveD d q.area q.num xs).1 (saveD d q.area q.num xs).2 q xs w) := by
  have HSV : Hid (saveD d q.area q.num xs = (d, 40)) := by show _ = _; unfold saveD; rw [if_pos hlg]
  obtain ⟨ad, n, c, rfl⟩ := h.form
  have h1 := sv4_at w q h
  obtain ⟨w1, hw1⟩ : ∃ w1, sv4 w (rdOf d) (.slice ad n c) q = w1 := ⟨_, rfl⟩
  rw [hw1] at h1
  have H1 : Hid (SvI P w w1 d ad n c q) := h1
  obtain ⟨e0, e1, e2, ez⟩ := h1.s4.cells
  rw [← hw1] at e0 e1 e2 ez
  unfold sv4 at hw1 e0 e1 e2 ez
  have HW1 : Hid ((((w.alloc (.cells (rdC (rdOf d) (.slice ad n c)) 27)).alloc (.cells (rtC q) 63)).alloc (.cells (rdC rd0 (.slice none 0 0)) 27)).alloc (.cells (rtC rt0) 63) = w1) := hw1
  obtain ⟨sx, hsx⟩ : ∃ sx, strB xs = sx := ⟨_, rfl⟩
  have hsz : sx.size = xs.length := by rw [← hsx, strB_size]
  rw [hsx]
  clear hsx hw1 h1 h
  by_cases h48 : 48 < xs.length
  · have h48' : (48 : Int) < (xs.length : Int) := by omega
    go_enter Try.func31, Try.ntmps31
    go_wp2_with fail
    rw [HW1.out]
    refine region_at (S := SV w.heap.size (w.heap.size + 1) (rdOf d) (.slice ad n c) q) 5 rfl (by kernel_rfl) ⟨H1.out.d3, H1.out.s4⟩ (fun hHeld => ?_)
    refine take_D (i := 0) 19 rfl rfl rfl rfl (by kernel_rfl) (by kernel_rfl) (by kernel_rfl) (fun _ _ _ h => h) (by rfl) (fun _ h => h.d) hHeld ?_
    simp only [List.setIfInBounds_toArray, List.set_cons_zero, List.set_cons_succ]
    refine take_T (i := 1) 20 rfl rfl rfl rfl (by kernel_rfl) (by kernel_rfl) (by kernel_rfl) (fun _ _ _ h => h) (by rfl) (fun _ h => h.s) hHeld ?_
    simp only [List.setIfInBounds_toArray, List.set_cons_zero, List.set_cons_succ]
    refine put_chain (i := 2) (j := 3) (b6 := w.heap.size + 1 + 1) (b7 := w.heap.size + 1 + 1 + 1) (by kernel_rfl) (by kernel_rfl) rfl rfl rfl rfl (by rfl) (by rfl) rfl rfl rfl rfl rfl rfl H1.out.d6 H1.out.s7 (by omega) (fun W ho => hHeld.off ho (by omega) (by omega) (by omega) (by omega)) (fun W hd6 hs7 ho hHeld2 => ?_)
    refine take_at (i := 4) 8 rfl rfl (by kernel_rfl) (by kernel_rfl) (by kernel_rfl) (fun _ _ _ h => h) (by rfl) (fun w hSw => by (have hSw2 := SV.facts hSw; clear hSw; go_simp; first | done | exact rfl)) (by assumption) ?_
    simp only [List.setIfInBounds_toArray, List.set_cons_zero, List.set_cons_succ]
    refine wpAnyH_done (by kernel_rfl) ?_ _
    have D6 : Hid (DskAt W (w.heap.size + 1 + 1) (rdOf d) (.slice ad n c)) := hd6
    have S7 : Hid (SltAt W (w.heap.size + 1 + 1 + 1) q) := hs7
    have HF : Hid (RSaved P d 40 q xs w (.returned (.tuple #[rdV (rdOf d) (.slice ad n c), rtV q, .int .i64 40])) W) := H1.out.drew.fin ho xs 40
    clear hd6 hs7 ho hHeld hHeld2
    go_wp2_with fail
    exact retS3 rfl rfl rfl rfl D6.out S7.out rfl (by rw [HSV.out]; exact HF.out)
  · have h48' : ¬ (48 : Int) < (xs.length : Int) := by omega
    have hn := hlg.resolve_left h48
    have hnz : ((q.num : Int) == 18446744073709551615) = true := by rw [hn]; rfl
    go_enter Try.func31, Try.ntmps31
    go_wp2_with fail
    rw [HW1.out]
    refine region_at (S := SV w.heap.size (w.heap.size + 1) (rdOf d) (.slice ad n c) q) 5 rfl (by kernel_rfl) ⟨H1.out.d3, H1.out.s4⟩ (fun hHeld => ?_)
    refine take_D (i := 0) 19 rfl rfl rfl rfl (by kernel_rfl) (by kernel_rfl) (by kernel_rfl) (fun _ _ _ h => h) (by rfl) (fun _ h => h.d) hHeld ?_
    simp only [List.setIfInBounds_toArray, List.set_cons_zero, List.set_cons_succ]
    refine take_T (i := 1) 20 rfl rfl rfl rfl (by kernel_rfl) (by kernel_rfl) (by kernel_rfl) (fun _ _ _ h => h) (by rfl) (fun _ h => h.s) hHeld ?_
    simp only [List.setIfInBounds_toArray, List.set_cons_zero, List.set_cons_succ]
    refine put_chain (i := 2) (j := 3) (b6 := w.heap.size + 1 + 1) (b7 := w.heap.size + 1 + 1 + 1) (by kernel_rfl) (by kernel_rfl) rfl rfl rfl rfl (by rfl) (by rfl) rfl rfl rfl rfl rfl rfl H1.out.d6 H1.out.s7 (by omega) (fun W ho => hHeld.off ho (by omega) (by omega) (by omega) (by omega)) (fun W hd6 hs7 ho hHeld2 => ?_)
    refine take_at (i := 4) 8 rfl rfl (by kernel_rfl) (by kernel_rfl) (by kernel_rfl) (fun _ _ _ h => h) (by rfl) (fun w hSw => by (have hSw2 := SV.facts hSw; clear hSw; go_simp; first | done | exact rfl)) (by assumption) ?_
    simp only [List.setIfInBounds_toArray, List.set_cons_zero, List.set_cons_succ]
    refine wpAnyH_done (by kernel_rfl) ?_ _
    have D6 : Hid (DskAt W (w.heap.size + 1 + 1) (rdOf d) (.slice ad n c)) := hd6
    have S7 : Hid (SltAt W (w.heap.size + 1 + 1 + 1) q) := hs7
    have HF : Hid (RSaved P d 40 q xs w (.returned (.tuple #[rdV (rdOf d) (.slice ad n c), rtV q, .int .i64 40])) W) := H1.out.drew.fin ho xs 40
    clear hd6 hs7 ho hHeld hHeld2
    go_wp2_with fail
    exact retS3 rfl rfl rfl rfl D6.out S7.out rfl (by rw [HSV.out]; exact HF.out)
end Go.Proofs.Ytpmmpdkeahmdiaa
