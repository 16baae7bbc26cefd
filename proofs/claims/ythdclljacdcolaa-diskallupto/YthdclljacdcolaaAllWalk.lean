/- DiskAll. -/
import Derived.Test.YthdclljacdcolaaAllBase
namespace Go.Proofs.Ythdclljacdcolaa
open Go.RowKit
set_option maxRecDepth 100000

attribute [local go_sem ↓] exec_alloc_D exec_box_D exec_load_D exec_store_D
attribute [local go_sem] rdV_cells rdC_0 rdC_1 rdC_2 rdC_3 rdC_4 rdC_5
section
variable {P : Program} {md : Region.Mode} {ops : Array Oper} {Q : Exit → Act → World → Prop} {S : World → Prop}
/-- An operation that a guard leaves out. -/
theorem drop_at {i : Nat} {oi : Oper} {fuel : Nat} {listed : Array Bool} {tmps : Array Value} {df : List Deferred} {w : World} (t : Tmp) (hi : ops[i]? = some oi) (hd : oi.dst = some t)
    (hs : Region.noSelect ops = true) (hf : Region.free md ops listed i = true) (hr : (Region.ready md ops listed).contains i = true)
    (hQ : ∀ c a w, Q (.panic c) (a.put oi.dst undef) w → Q (.panic c) a w) (hw : Region.wanted oi (yielded ops tmps) = false) (hS : S w)
    (h : wpAnyH P md ops Q S fuel (listed.setIfInBounds i true) { tmps := tmps.setIfInBounds t undef, defers := df } w) : wpAnyH P md ops Q S (fuel + 1) listed { tmps := tmps, defers := df } w := by
  refine wpAnyH_take hi hs hf hr hQ (.inr ⟨hw, rfl⟩) hS ?_
  rw [hd]; exact h
end
structure SD (bo br : Nat) (o : OpC) (b : Value) (r : RD) (l : Value) (W : World) : Prop where
  hb : W.heap[bo]? = some (.cells #[.int .i64 o.kind, .int .u64 o.area, .int .i64 o.n, b] 34 (0, 0))
  hd : DskAt W br r l
theorem SD.cells {bo br : Nat} {o : OpC} {b : Value} {r : RD} {l : Value} {W : World} (h : SD bo br o b r l W) : W.cell? ⟨bo, 0, none⟩ = some (.int .i64 o.kind) ∧ W.cell? ⟨bo, 1, none⟩ = some (.int .u64 o.area) ∧ W.cell? ⟨bo, 2, none⟩ = some (.int .i64 o.n) ∧ W.cell? ⟨bo, 3, none⟩ = some b ∧ W.cell? ⟨br, 1, none⟩ = some (.int .i64 r.steps) := by
  obtain ⟨h0, h1, h2, h3, _⟩ := four_cells h.hb
  obtain ⟨_, d1, _⟩ := h.hd.cells
  exact ⟨h0, h1, h2, h3, d1⟩
theorem SD.below {bo br : Nat} {o : OpC} {b : Value} {r : RD} {l : Value} {W W' : World} (h : SD bo br o b r l W) (hB : Below W.heap.size W W') : SD bo br o b r l W' := ⟨(hB.block bo (Array.getElem?_eq_some_iff.1 h.hb).1).trans h.hb, h.hd.below h.hd.lt hB⟩
set_option maxHeartbeats 2000000 in
theorem all_walk (room : Int) (v : Value) (w : World) (h1 : -9223372036854775808 ≤ room) (h2 : room ≤ 9223372036854775807) (L : List OpC) (hS : Script w v L) (hL : L.length ≤ 1048576) :
    Calls Try.prog 3 #[.int .i64 room, v] w fun e w' => e = .returned (.bool true) ∧ Below w.heap.size w w' := by
  obtain ⟨ao, cap, rfl, hcap, _, hcs⟩ := hS
  have HCS : Hid (0 < L.length → ∃ b off, ao = some ⟨b, off, none⟩ ∧ b < w.heap.size ∧ ∀ (i : Nat) (o : OpC), L[i]? = some o → o.fits ∧ ∃ bv,
    w.cell? ⟨b, off + i * 4, none⟩ = some (.int .i64 o.kind) ∧ w.cell? ⟨b, off + i * 4 + 1, none⟩ = some (.int .u64 o.area) ∧ w.cell? ⟨b, off + i * 4 + 2, none⟩ = some (.int .i64 o.n) ∧ w.cell? ⟨b, off + i * 4 + 3, none⟩ = some bv ∧ Row w.heap.size w bv o.xs) := hcs
  clear hcs
  go_enter Try.func3, Try.ntmps3
  go_wp2_with fail
  refine (New_any room w h1 h2).mono ?_
  rintro e w1 ⟨p, fp, rfl, hd1, hb1, hf1⟩
  have B1 : Hid (Below w.heap.size w w1) := hb1
  have HD1 : Hid (DiskAt 0 w1 p (newD room) fp) := hd1
  have HF1 : Hid (∀ b ∈ fp, w.heap.size ≤ b) := hf1
  have hs1 := hb1.size
  clear hd1 hb1 hf1
  go_wp2_with fail
  refine (refNew_any room w1).mono ?_
  rintro e w2 ⟨rfl, hb2⟩
  rw [← rdOf_new]
  have B2 : Hid (Below w.heap.size w w2) := B1.out.trans (hb2.mono (by omega))
  have HD2 : Hid (DiskAt 0 w2 p (newD room) fp) := HD1.out.below hb2
  have hs2 := hb2.size
  have hst3 := storeD_at (r := rdOf (newD room)) (ad := none) (n := 0) (c := 0) (DskAt.new w2 rd0 (.slice none 0 0))
  obtain ⟨w3, hw3⟩ : ∃ w3, setD (w2.alloc (.cells (rdC rd0 (.slice none 0 0)) 27)) w2.heap.size (rdOf (newD room)) (.slice none 0 0) = w3 := ⟨_, rfl⟩
  rw [hw3] at hst3
  have hBR : AllR w w2.heap.size p (newD room) w3 0 fp none 0 0 := by
    have hlt := HD2.out.lt
    have hst : ∀ b, b < w2.heap.size → w3.heap[b]? = w2.heap[b]? := fun b hb => by rw [← hw3, setD_far _ _ _ _ _ (by omega), alloc_old _ _ hb]
    refine ⟨HD2.out.same fun b hb => hst b (hlt b hb), ⟨_, [], rfl, SecRow.nil _ _, rfl⟩, hw3 ▸ (DskAt.new w2 rd0 (.slice none 0 0)).set, ?_, HF1.out, fun hm => by have := hlt _ hm; omega, B2.out.size⟩
    rw [← hw3]
    exact setD_below (B2.out.alloc B2.out.size _) B2.out.size _ _
  have HBR : Hid (AllR w w2.heap.size p (newD room) w3 0 fp none 0 0) := hBR
  clear hb2 hw3 hBR B1 HD1
  go_wp2_with fail
  refine (alive_any w3).mono ?_
  rintro e w4 ⟨rfl, hb4⟩
  have HB4 : Hid (AllR w w2.heap.size p (newD room) w4 0 fp none 0 0) := HBR.out.then hb4
  have hld4 := loadD_at HB4.out.rb
  clear hb4 HBR hst3
  go_wp2_with fail
  refine (stands_any _ 0 p (newD room) fp _ w4 HB4.out.dk HB4.out.ref (new_ok room) (by omega)).mono ?_
  rintro e w5 ⟨rfl, hb5⟩
  have HB5 : Hid (AllR w w2.heap.size p (newD room) w5 0 fp none 0 0) := HB4.out.then hb5
  clear hb5 HB4 hld4
  go_wp2_with fail
  go_loopw [29] (fun v wr => ∃ (k : Nat) (fp : List Nat) (ad : Option Addr) (n c : Nat), v = .int .i64 k ∧ k ≤ L.length ∧ AllR w w2.heap.size p (behind room (L.take k)) wr k fp ad n c) (fun v _ => L.length - (intOf v).toNat)
  case atStart => exact ⟨0, fp, none, 0, 0, rfl, Nat.zero_le _, HB5.out⟩
  case round =>
    clear HB5 HD2 HF1 B2
    obtain ⟨k, fp, ad, n, c, rfl, hk, hI⟩ := hrel
    have HI : Hid (AllR w w2.heap.size p (behind room (L.take k)) wr k fp ad n c) := hI
    clear hI
    by_cases hlt : k < L.length
    · obtain ⟨b, off, rfl, hbw, hel⟩ := HCS.out (by omega)
      obtain ⟨o, ho⟩ : ∃ o, L[k]? = some o := ⟨_, List.getElem?_eq_getElem hlt⟩
      obtain ⟨hfit, bv, c0, c1, c2, c3, hrow⟩ := hel k o ho
      obtain ⟨ao2, cap2, rfl, hcap2⟩ := hrow.shape
      have HFit : Hid o.fits := hfit
      have HRow : Hid (Row w.heap.size w (.slice ao2 o.xs.length cap2) o.xs) := hrow
      have hBw := HI.out.below
      have d0 := (hBw.cell (p := ⟨b, off + k * 4, none⟩) hbw).trans c0
      have d1 := (hBw.cell (p := ⟨b, off + k * 4 + 1, none⟩) hbw).trans c1
      have d2 := (hBw.cell (p := ⟨b, off + k * 4 + 2, none⟩) hbw).trans c2
      have d3 := (hBw.cell (p := ⟨b, off + k * 4 + 3, none⟩) hbw).trans c3
      have hlt' : (k : Int) < (L.length : Int) := by omega
      have hsz := hBw.size
      have HBS : Hid (behind room (L.take (k + 1)) = doD (behind room (L.take k)) o) := behind_snoc room ho
      have HSO : Hid (SecsOk (behind room (L.take (k + 1))).secs) := behind_ok room _
      obtain ⟨dd, hdd⟩ : ∃ dd, behind room (L.take k) = dd := ⟨_, rfl⟩
      rw [hdd] at HI HBS
      obtain ⟨wx, hwx⟩ : ∃ wx, wr.alloc (.cells #[.int .i64 o.kind, .int .u64 o.area, .int .i64 o.n, .slice ao2 o.xs.length cap2] 34) = wx := ⟨_, rfl⟩
      have HX : Hid (AllR w w2.heap.size p dd wx k fp ad n c) := hwx ▸ HI.out.alloc _
      have HOX : Hid (wx.heap[wr.heap.size]? = some (.cells #[.int .i64 o.kind, .int .u64 o.area, .int .i64 o.n, .slice ao2 o.xs.length cap2] 34 (0, 0))) := hwx ▸ alloc_new _ _
      have hsx : wx.heap.size = wr.heap.size + 1 := by rw [← hwx]; simp
      have hldx := loadD_at HX.out.rb
      rw [← hwx] at hldx
      have HWX : Hid (wr.alloc (.cells #[.int .i64 o.kind, .int .u64 o.area, .int .i64 o.n, .slice ao2 o.xs.length cap2] 34) = wx) := hwx
      clear hel c0 c1 c2 c3 hfit hrow ho hBw hdd hwx
      go_wp2_with fail
      rw [HWX.out]
      clear hldx HWX d0 d1 d2 d3
      refine (refDo_any (fun b => b ≠ w2.heap.size ∧ b ∉ fp) k w.heap.size dd _ o _ wx HX.out.ref HX.out.dk.ok (by omega) HFit.out (HRow.out.below HX.out.below) HX.out.below.size).mono ?_
      rintro e w3' ⟨v3, rfl, hR3, hb3⟩
      obtain ⟨ad3, n3, c3, rfl⟩ := hR3.form
      obtain ⟨dq, hdq⟩ : ∃ dq, doD dd o = dq := ⟨_, rfl⟩
      rw [hdq] at hR3 HBS
      rw [HBS.out] at HSO
      rw [hdq]
      have HDQ : Hid (doD dd o = dq) := hdq
      have HR3 : Hid (RefIs (fun b => (b ≠ w2.heap.size ∧ b ∉ fp) ∨ wx.heap.size ≤ b) w3' (rdV (rdOf dq) (.slice ad3 n3 c3)) dq) := hR3
      have HB3 : Hid (Below wx.heap.size wx w3') := hb3
      have hs3 := hb3.size
      obtain ⟨eq, heq⟩ : ∃ eq, doE dd o = eq := ⟨_, rfl⟩
      rw [heq]
      have HEQ : Hid (doE dd o = eq) := heq
      have hst4 := storeD_at (r := rdOf dq) (ad := ad3) (n := n3) (c := c3) (DskAt.new w3' rd0 (.slice none 0 0))
      obtain ⟨w4', hw4'⟩ : ∃ w4', setD (w3'.alloc (.cells (rdC rd0 (.slice none 0 0)) 27)) w3'.heap.size (rdOf dq) (.slice ad3 n3 c3) = w4' := ⟨_, rfl⟩
      rw [hw4'] at hst4
      have hS4 : DskAt w4' w3'.heap.size (rdOf dq) (.slice ad3 n3 c3) := hw4' ▸ (DskAt.new w3' rd0 (.slice none 0 0)).set
      have hf4 : ∀ b, b < w3'.heap.size → w4'.heap[b]? = w3'.heap[b]? := fun b hb => by rw [← hw4', setD_far _ _ _ _ _ (by omega), alloc_old _ _ hb]
      have hbr4 : DskAt w4' w2.heap.size (rdOf dd) (.slice ad n c) := (hf4 _ (by have := HX.out.rb.lt; omega)).trans (HX.out.rb.below HX.out.rb.lt hb3)
      have hz4 : w4'.heap.size = w3'.heap.size + 1 := by rw [← hw4', setD_size]; simp
      have hB4 := hw4' ▸ setD_below ((Below.refl 0 w3').alloc (Nat.zero_le _) (.cells (rdC rd0 (.slice none 0 0)) 27)) (Nat.zero_le w3'.heap.size) (rdOf dq) (.slice ad3 n3 c3)
      have hld4 := loadD_at hS4
      have hst5 := storeD_at (r := rdOf dq) (ad := ad3) (n := n3) (c := c3) hbr4
      obtain ⟨w5', hw5'⟩ : ∃ w5', setD w4' w2.heap.size (rdOf dq) (.slice ad3 n3 c3) = w5' := ⟨_, rfl⟩
      rw [hw5'] at hst5
      have hrb5 : DskAt w5' w2.heap.size (rdOf dq) (.slice ad3 n3 c3) := hw5' ▸ hbr4.set
      have H5 : Hid (∀ b, b ≠ w2.heap.size → b ≠ w3'.heap.size → b < w3'.heap.size → w5'.heap[b]? = w3'.heap[b]?) := fun b h1 h2 h3 => by rw [← hw5', setD_far _ _ _ _ _ h1]; exact hf4 b h3
      have hz5 : w5'.heap.size = w3'.heap.size + 1 := by rw [← hw5', setD_size]; exact hz4
      have HO5 : Hid (w5'.os = w3'.os ∧ w5'.tape = w3'.tape ∧ w5'.output = w3'.output) := by
        have hB5 := hw5' ▸ setD_below hB4 (Nat.zero_le w2.heap.size) (rdOf dq) (.slice ad3 n3 c3)
        exact ⟨hB5.os, hB5.tape, hB5.output⟩
      have HRB5 : Hid (DskAt w5' w2.heap.size (rdOf dq) (.slice ad3 n3 c3)) := hrb5
      have hlbr := HX.out.rb.lt
      have hbr1 : w2.heap.size < wr.heap.size := HI.out.rb.lt
      have ho5 : w5'.heap[wr.heap.size]? = some (.cells #[.int .i64 o.kind, .int .u64 o.area, .int .i64 o.n, .slice ao2 o.xs.length cap2] 34 (0, 0)) := by
        rw [H5.out _ (by omega) (by omega) (by omega), hb3.block _ (by omega)]
        exact HOX.out
      have HSD : Hid (SD wr.heap.size w2.heap.size o (.slice ao2 o.xs.length cap2) (rdOf dq) (.slice ad3 n3 c3) w5'.drew) := ⟨ho5, hrb5⟩
      have HD5 : Hid (DiskAt k w5'.drew p dd fp) := ((HX.out.dk.below hb3).same fun b hb => by
        have hl := HX.out.dk.lt b hb
        exact H5.out b (fun e => HX.out.nfp (e ▸ hb)) (by omega) (by omega))
      have HB5 : Hid (Below w.heap.size w w5'.drew) := by
        have e1 : Below w.heap.size w w3' := HX.out.below.trans (hb3.mono HX.out.below.size)
        exact (e1.trans ⟨HO5.out.1, HO5.out.2.1, HO5.out.2.2, by omega, fun b hb => H5.out b (by have := HX.out.ge; omega) (by have := e1.size; omega) (by have := e1.size; omega)⟩).drew
      clear hR3 hb3 hdq heq hw4' hw5' hS4 hf4 hbr4 hB4 hrb5 ho5
      go_wp2_with fail
      refine region_at (S := SD wr.heap.size w2.heap.size o (.slice ao2 o.xs.length cap2) (rdOf dq) (.slice ad3 n3 c3)) 22 rfl (by kernel_rfl) HSD.out (fun hHeld => ?_)
      refine take_at (i := 0) 41 rfl rfl (by kernel_rfl) (by kernel_rfl) (by kernel_rfl) (fun _ _ _ h => h) (by rfl) (fun w hSw => by (have hSw2 := SD.cells hSw; clear hSw; go_simp; first | done | exact rfl)) (by assumption) ?_
      simp only [List.setIfInBounds_toArray, List.set_cons_zero, List.set_cons_succ]
      refine take_at (i := 1) 42 rfl rfl (by kernel_rfl) (by kernel_rfl) (by kernel_rfl) (fun _ _ _ h => h) (by rfl) (fun w hSw => by (have hSw2 := SD.cells hSw; clear hSw; go_simp; first | done | exact rfl)) (by assumption) ?_
      simp only [List.setIfInBounds_toArray, List.set_cons_zero, List.set_cons_succ]
      refine take_at (i := 3) 44 rfl rfl (by kernel_rfl) (by kernel_rfl) (by kernel_rfl) (fun _ _ _ h => h) (by rfl) (fun w hSw => by (have hSw2 := SD.cells hSw; clear hSw; go_simp; first | done | exact rfl)) (by assumption) ?_
      simp only [List.setIfInBounds_toArray, List.set_cons_zero, List.set_cons_succ]
      refine one_call (i := 2) (w0 := w5'.drew) 43 14 #[.pointer (some ⟨p, 0, none⟩), opV o (.slice ao2 o.xs.length cap2)] (by kernel_rfl) rfl rfl (by rfl) (by kernel_rfl) ?_
      refine (does_any k p dd fp o (.slice ao2 o.xs.length cap2) w5'.drew HD5.out HFit.out (row_xx HRow.out HB5.out HX.out.fpb) (by omega)).mono ?_
      rintro e w6 ⟨rfl, fp6, hd6, ho6, hf6⟩
      rw [HEQ.out]
      rw [HDQ.out] at hd6
      have HN : Hid (AllR w w2.heap.size p dq w6 (k + 1) fp6 ad3 n3 c3) := HX.out.next (w5 := w5'.drew) HR3.out HB3.out (Nat.le_refl _) H5.out (by show _ ≤ w5'.heap.size; omega) HO5.out.1 HO5.out.2.1 HO5.out.2.2 HRB5.out hd6 ho6 hf6
      have hS6 : SD wr.heap.size w2.heap.size o (.slice ao2 o.xs.length cap2) (rdOf dq) (.slice ad3 n3 c3) w6 := ⟨(ho6.block wr.heap.size (by show _ < w5'.heap.size; omega) (fun hm => by have := HI.out.dk.lt _ hm; omega)).trans HSD.out.hb, HN.out.rb⟩
      refine ⟨_, rfl, hS6, fun _ => ?_⟩
      simp only [List.setIfInBounds_toArray, List.set_cons_zero, List.set_cons_succ]
      have est : (rdOf dq).steps = dq.steps := rfl
      refine take_at (i := 4) 45 rfl rfl (by kernel_rfl) (by kernel_rfl) (by kernel_rfl) (fun _ _ _ h => h) (by rfl) (fun w hSw => by (have hSw2 := SD.cells hSw; clear hSw; go_simp; first | done | exact rfl)) (by assumption) ?_
      simp only [List.setIfInBounds_toArray, List.set_cons_zero, List.set_cons_succ]
      refine take_at (i := 5) 46 rfl rfl (by kernel_rfl) (by kernel_rfl) (by kernel_rfl) (fun _ _ _ h => h) (by rfl) (fun w hSw => by (have hSw2 := SD.cells hSw; clear hSw; go_simp; first | done | exact rfl)) (by assumption) ?_
      simp only [List.setIfInBounds_toArray, List.set_cons_zero, List.set_cons_succ]
      refine take_at (i := 6) 47 rfl rfl (by kernel_rfl) (by kernel_rfl) (by kernel_rfl) (fun _ _ _ h => h) (by rfl) (fun w hSw => by (have hSw2 := SD.cells hSw; clear hSw; go_simp; first | done | exact rfl)) (by assumption) ?_
      simp only [List.setIfInBounds_toArray, List.set_cons_zero, List.set_cons_succ]
      refine take_at (i := 8) 49 rfl rfl (by kernel_rfl) (by kernel_rfl) (by kernel_rfl) (fun _ _ _ h => h) (by rfl) (fun w hSw => by (have hSw2 := SD.cells hSw; clear hSw; go_simp; first | done | exact rfl)) (by assumption) ?_
      simp only [List.setIfInBounds_toArray, List.set_cons_zero, List.set_cons_succ]
      refine take_at (i := 9) 50 rfl rfl (by kernel_rfl) (by kernel_rfl) (by kernel_rfl) (fun _ _ _ h => h) (by rfl) (fun w hSw => by (have hSw2 := SD.cells hSw; clear hSw; go_simp; first | done | exact rfl)) (by assumption) ?_
      simp only [List.setIfInBounds_toArray, List.set_cons_zero, List.set_cons_succ]
      refine one_call (i := 7) (w0 := w6) 48 15 #[.pointer (some ⟨p, 0, none⟩)] (by kernel_rfl) rfl rfl (by rfl) (by kernel_rfl) ?_
      refine (Steps_any (k + 1) p dq fp6 w6 HN.out.dk).mono ?_
      rintro e w6' ⟨rfl, rfl⟩
      refine ⟨_, rfl, hS6, fun _ => ?_⟩
      simp only [List.setIfInBounds_toArray, List.set_cons_zero, List.set_cons_succ]
      refine take_at (i := 10) 51 rfl rfl (by kernel_rfl) (by kernel_rfl) (by kernel_rfl) (fun _ _ _ h => h) (by rfl) (fun w hSw => by (have hSw2 := SD.cells hSw; clear hSw; go_simp; first | done | exact rfl)) (by assumption) ?_
      simp only [List.setIfInBounds_toArray, List.set_cons_zero, List.set_cons_succ]
      refine take_at (i := 11) 52 rfl rfl (by kernel_rfl) (by kernel_rfl) (by kernel_rfl) (fun _ _ _ h => h) (by rfl) (fun w hSw => by (have hSw2 := SD.cells hSw; clear hSw; go_simp; first | done | exact rfl)) (by assumption) ?_
      simp only [List.setIfInBounds_toArray, List.set_cons_zero, List.set_cons_succ]
      refine take_at (i := 12) 53 rfl rfl (by kernel_rfl) (by kernel_rfl) (by kernel_rfl) (fun _ _ _ h => h) (by rfl) (fun w hSw => by (have hSw2 := SD.cells hSw; clear hSw; go_simp; first | done | exact rfl)) (by assumption) ?_
      simp only [List.setIfInBounds_toArray, List.set_cons_zero, List.set_cons_succ]
      refine take_at (i := 13) 54 rfl rfl (by kernel_rfl) (by kernel_rfl) (by kernel_rfl) (fun _ _ _ h => h) (by rfl) (fun w hSw => by (have hSw2 := SD.cells hSw; clear hSw; go_simp; first | done | exact rfl)) (by assumption) ?_
      simp only [List.setIfInBounds_toArray, List.set_cons_zero, List.set_cons_succ]
      by_cases h20 : (k : Int) < 20
      · clear hcap
        refine take_at (i := 14) 55 rfl rfl (by kernel_rfl) (by kernel_rfl) (by kernel_rfl) (fun _ _ _ h => h) (by rfl) (fun w hSw => by (have hSw2 := SD.cells hSw; clear hSw; go_simp; first | done | exact rfl)) (by assumption) ?_
        simp only [List.setIfInBounds_toArray, List.set_cons_zero, List.set_cons_succ]
        refine take_at (i := 15) 56 rfl rfl (by kernel_rfl) (by kernel_rfl) (by kernel_rfl) (fun _ _ _ h => h) (by rfl) (fun w hSw => by (have hSw2 := SD.cells hSw; clear hSw; go_simp; first | done | exact rfl)) (by assumption) ?_
        simp only [List.setIfInBounds_toArray, List.set_cons_zero, List.set_cons_succ]
        refine take_at (i := 16) 57 rfl rfl (by kernel_rfl) (by kernel_rfl) (by kernel_rfl) (fun _ _ _ h => h) (by rfl) (fun w hSw => by (have hSw2 := SD.cells hSw; clear hSw; go_simp; first | done | exact rfl)) (by assumption) ?_
        simp only [List.setIfInBounds_toArray, List.set_cons_zero, List.set_cons_succ]
        refine take_at (i := 17) (v := rdV (rdOf dq) (.slice ad3 n3 c3)) 58 rfl rfl (by kernel_rfl) (by kernel_rfl) (by kernel_rfl) (fun _ _ _ h => h) (by rfl) (fun W hSw => ?_) (by assumption) ?_
        · refine (exec_load_D _ (.tmp 6) _ _ _ _ _ W).trans ?_
          show Result.andThen (loadD Try.prog (.pointer (some ⟨w2.heap.size, 0, none⟩)) W) _ = _
          rw [loadD_at hSw.hd]
          rfl
        simp only [List.setIfInBounds_toArray, List.set_cons_zero, List.set_cons_succ]
        refine one_call (i := 18) (w0 := w6') 59 12 #[.pointer (some ⟨p, 0, none⟩), rdV (rdOf dq) (.slice ad3 n3 c3)] (by kernel_rfl) rfl rfl (by rfl) (by kernel_rfl) ?_
        refine (stands_any _ (k + 1) p dq fp6 _ w6' HN.out.dk HN.out.ref HSO.out (by omega)).mono ?_
        rintro e w7 ⟨rfl, hb7⟩
        have hS7 := hS6.below hb7
        refine ⟨_, rfl, hS7, fun _ => ?_⟩
        simp only [List.setIfInBounds_toArray, List.set_cons_zero, List.set_cons_succ]
        refine take_at (i := 19) 60 rfl rfl (by kernel_rfl) (by kernel_rfl) (by kernel_rfl) (fun _ _ _ h => h) (by rfl) (fun w hSw => by (have hSw2 := SD.cells hSw; clear hSw; go_simp; first | done | exact rfl)) (by assumption) ?_
        simp only [List.setIfInBounds_toArray, List.set_cons_zero, List.set_cons_succ]
        refine take_at (i := 20) 61 rfl rfl (by kernel_rfl) (by kernel_rfl) (by kernel_rfl) (fun _ _ _ h => h) (by rfl) (fun w hSw => by (have hSw2 := SD.cells hSw; clear hSw; go_simp; first | done | exact rfl)) (by assumption) ?_
        simp only [List.setIfInBounds_toArray, List.set_cons_zero, List.set_cons_succ]
        refine take_at (i := 21) 62 rfl rfl (by kernel_rfl) (by kernel_rfl) (by kernel_rfl) (fun _ _ _ h => h) (by rfl) (fun w hSw => by (have hSw2 := SD.cells hSw; clear hSw; go_simp; first | done | exact rfl)) (by assumption) ?_
        simp only [List.setIfInBounds_toArray, List.set_cons_zero, List.set_cons_succ]
        refine wpAnyH_done (by kernel_rfl) ?_ _
        have HN7 : Hid (AllR w w2.heap.size p dq w7 (k + 1) fp6 ad3 n3 c3) := HN.out.then hb7
        clear hHeld hd6 ho6 hf6 hS6 hS7 hb7 hld4 hst4 hst5 est h20
        go_wp2_with fail
        go_roundw
        case rel => exact ⟨k + 1, fp6, ad3, n3, c3, by go_num, by omega, by rw [HBS.out]; exact HN7.out⟩
        case measure => simp [intOf]; omega
      · clear hcap
        refine take_at (i := 14) 55 rfl rfl (by kernel_rfl) (by kernel_rfl) (by kernel_rfl) (fun _ _ _ h => h) (by rfl) (fun w hSw => by (have hSw2 := SD.cells hSw; clear hSw; go_simp; first | done | exact rfl)) (by assumption) ?_
        simp only [List.setIfInBounds_toArray, List.set_cons_zero, List.set_cons_succ]
        refine take_at (i := 15) 56 rfl rfl (by kernel_rfl) (by kernel_rfl) (by kernel_rfl) (fun _ _ _ h => h) (by rfl) (fun w hSw => by (have hSw2 := SD.cells hSw; clear hSw; go_simp; first | done | exact rfl)) (by assumption) ?_
        simp only [List.setIfInBounds_toArray, List.set_cons_zero, List.set_cons_succ]
        refine drop_at (i := 16) 57 rfl rfl (by kernel_rfl) (by kernel_rfl) (by kernel_rfl) (fun _ _ _ h => h) (by rfl) (by assumption) ?_
        simp only [List.setIfInBounds_toArray, List.set_cons_zero, List.set_cons_succ]
        refine drop_at (i := 17) 58 rfl rfl (by kernel_rfl) (by kernel_rfl) (by kernel_rfl) (fun _ _ _ h => h) (by rfl) (by assumption) ?_
        simp only [List.setIfInBounds_toArray, List.set_cons_zero, List.set_cons_succ]
        refine drop_at (i := 18) 59 rfl rfl (by kernel_rfl) (by kernel_rfl) (by kernel_rfl) (fun _ _ _ h => h) (by rfl) (by assumption) ?_
        simp only [List.setIfInBounds_toArray, List.set_cons_zero, List.set_cons_succ]
        refine drop_at (i := 19) 60 rfl rfl (by kernel_rfl) (by kernel_rfl) (by kernel_rfl) (fun _ _ _ h => h) (by rfl) (by assumption) ?_
        simp only [List.setIfInBounds_toArray, List.set_cons_zero, List.set_cons_succ]
        refine take_at (i := 20) 61 rfl rfl (by kernel_rfl) (by kernel_rfl) (by kernel_rfl) (fun _ _ _ h => h) (by rfl) (fun w hSw => by (have hSw2 := SD.cells hSw; clear hSw; go_simp; first | done | exact rfl)) (by assumption) ?_
        simp only [List.setIfInBounds_toArray, List.set_cons_zero, List.set_cons_succ]
        refine take_at (i := 21) 62 rfl rfl (by kernel_rfl) (by kernel_rfl) (by kernel_rfl) (fun _ _ _ h => h) (by rfl) (fun w hSw => by (have hSw2 := SD.cells hSw; clear hSw; go_simp; first | done | exact rfl)) (by assumption) ?_
        simp only [List.setIfInBounds_toArray, List.set_cons_zero, List.set_cons_succ]
        refine wpAnyH_done (by kernel_rfl) ?_ _
        clear hHeld hd6 ho6 hf6 hS6 hld4 hst4 hst5 est h20
        go_wp2_with fail
        go_roundw
        case rel => exact ⟨k + 1, fp6, ad3, n3, c3, by go_num, by omega, by rw [HBS.out]; exact HN.out⟩
        case measure => simp [intOf]; omega
    · have hxn : ¬ ((k : Int) < (L.length : Int)) := by omega
      have hld := loadD_at HI.out.rb
      have HSO : Hid (SecsOk (behind room (L.take k)).secs) := behind_ok room _
      go_wp2_with fail
      refine (stands_any _ k p (behind room (L.take k)) fp _ wr HI.out.dk HI.out.ref HSO.out (by omega)).mono ?_
      rintro e w6 ⟨rfl, hb6⟩
      have B6 : Hid (Below w.heap.size w w6) := HI.out.below.trans (hb6.mono HI.out.below.size)
      clear hb6
      go_wp2_with fail
      go_ret
      exact ⟨rfl, B6.out⟩
end Go.Proofs.Ythdclljacdcolaa
