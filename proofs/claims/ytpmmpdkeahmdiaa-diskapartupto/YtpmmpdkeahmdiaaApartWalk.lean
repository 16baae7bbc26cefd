/- DiskApart. -/
import Derived.Test.YtpmmpdkeahmdiaaAllBase
import Derived.Test.YtpmmpdkeahmdiaaCloneD
namespace Go.Proofs.Ytpmmpdkeahmdiaa
open Go.RowKit
set_option maxRecDepth 100000

attribute [local go_sem ↓] exec_alloc_D exec_box_D exec_load_D exec_store_D
attribute [local go_sem] rdV_cells rdC_0 rdC_1 rdC_2 rdC_3 rdC_4 rdC_5
/-- The disk behind more calls. -/
def onD (d : DS) (M : List OpC) : DS := M.foldl doD d
theorem onD_snoc (d : DS) {M : List OpC} {k : Nat} {o : OpC} (h : M[k]? = some o) : onD d (M.take (k + 1)) = doD (onD d (M.take k)) o := by
  unfold onD
  rw [List.take_add_one, h, List.foldl_append]
  rfl
theorem onD_ok {d : DS} (h : SecsOk d.secs) : ∀ M : List OpC, SecsOk (onD d M).secs := by
  intro M
  unfold onD
  induction M generalizing d with
  | nil => exact h
  | cons o r ih => exact ih (doD_ok o h)
/-- What the loop leaves as it was. -/
structure Keep (W0 : World) (br : Nat) (fq0 : List Nat) (wr : World) (fq : List Nat) : Prop where
  size : W0.heap.size ≤ wr.heap.size
  block : ∀ b, b < W0.heap.size → b ≠ br → b ∉ fq0 → wr.heap[b]? = W0.heap[b]?
  sub : ∀ b ∈ fq, b ∈ fq0 ∨ W0.heap.size ≤ b
theorem Keep.next {W0 : World} {br bs : Nat} {fq0 fq fq' : List Nat} {w1 w2 w5 w6 : World} (h : Keep W0 br fq0 w1 fq) (hb2 : Below w1.heap.size w1 w2) (hbs : w2.heap.size ≤ bs) (h5 : ∀ b, b ≠ br → b ≠ bs → b < w2.heap.size → w5.heap[b]? = w2.heap[b]?) (hs5 : w2.heap.size ≤ w5.heap.size) (ho6 : Only fq w5 w6) (hf6 : ∀ b ∈ fq', b ∈ fq ∨ w5.heap.size ≤ b) : Keep W0 br fq0 w6 fq' := by
  have h0 := h.size
  have h1 := hb2.size
  have h2 := ho6.size
  refine ⟨by omega, fun b hb hbr hfq => ?_, fun b hb => ?_⟩
  · rw [ho6.block b (by omega) fun hm => by rcases h.sub b hm with h3 | h3; exact hfq h3; omega, h5 b hbr (by omega) (by omega), hb2.block b (by omega)]
    exact h.block b hb hbr hfq
  · rcases hf6 b hb with h3 | h3
    · exact h.sub b h3
    · exact .inr (by omega)
set_option maxHeartbeats 1000000 in
theorem apart_walk (room : Int) (v0 v1 : Value) (w : World) (h1 : -9223372036854775808 ≤ room) (h2 : room ≤ 9223372036854775807) (L : List OpC) (hS : Script w v0 L) (M : List OpC) (hM : Script w v1 M) (hL : L.length ≤ 1048576) (hML : M.length ≤ 1048576) :
    Calls Try.prog 5 #[.int .i64 room, v0, v1] w fun e w' => e = .returned (.bool true) ∧ Below w.heap.size w w' := by
  have HSC : Hid (Script w v0 L) := hS
  obtain ⟨ao, cap, rfl, hcap, _, hcs⟩ := hM
  have HCS : Hid (0 < M.length → ∃ b off, ao = some ⟨b, off, none⟩ ∧ b < w.heap.size ∧ ∀ (i : Nat) (o : OpC), M[i]? = some o → o.fits ∧ ∃ bv,
    w.cell? ⟨b, off + i * 4, none⟩ = some (.int .i64 o.kind) ∧ w.cell? ⟨b, off + i * 4 + 1, none⟩ = some (.int .u64 o.area) ∧ w.cell? ⟨b, off + i * 4 + 2, none⟩ = some (.int .i64 o.n) ∧ w.cell? ⟨b, off + i * 4 + 3, none⟩ = some bv ∧ Row w.heap.size w bv o.xs) := hcs
  clear hcs hS
  go_enter Try.func5, Try.ntmps5
  go_wp2_with fail
  refine (begun_any room v0 w L HSC.out h1 h2 hL).mono ?_
  rintro e w1 ⟨p, fp, rv, rfl, hd1, hr1, hb1, hf1⟩
  obtain ⟨ad, n, c, rfl⟩ := hr1.form
  obtain ⟨d, hd⟩ : ∃ d, behind room L = d := ⟨_, rfl⟩
  have HSO : Hid (SecsOk d.secs) := hd ▸ behind_ok room L
  rw [hd] at hd1 hr1
  rw [hd]
  have hst := storeD_at (r := rdOf d) (ad := ad) (n := n) (c := c) (DskAt.new w1 rd0 (.slice none 0 0))
  obtain ⟨w2, hw2⟩ : ∃ w2, setD (w1.alloc (.cells (rdC rd0 (.slice none 0 0)) 27)) w1.heap.size (rdOf d) (.slice ad n c) = w2 := ⟨_, rfl⟩
  rw [hw2] at hst
  have hst2 : ∀ b, b < w1.heap.size → w2.heap[b]? = w1.heap[b]? := fun b hb => by rw [← hw2, setD_far _ _ _ _ _ (by omega), alloc_old _ _ hb]
  have hz2 : w1.heap.size ≤ w2.heap.size := by rw [← hw2, setD_size]; simp
  have D2 : Hid (DiskAt L.length w2 p d fp) := hd1.same fun b hb => hst2 b (hd1.lt b hb)
  have R2 : Hid (RefIs (fun b => b < w1.heap.size) w2 (rdV (rdOf d) (.slice ad n c)) d) := (hr1.mono (fun b hb _ => hb)).same hz2 fun b _ hb => hst2 b hb
  have S2 : Hid (DskAt w2 w1.heap.size (rdOf d) (.slice ad n c)) := hw2 ▸ (DskAt.new w1 rd0 (.slice none 0 0)).set
  have B2 : Hid (Below w.heap.size w w2) := by
    rw [← hw2]
    exact setD_below (hb1.alloc hb1.size _) hb1.size _ _
  have HLF : Hid (∀ b ∈ fp, b < w1.heap.size) := hd1.lt
  clear hd1 hr1 hb1 hf1 hd hw2 hst2
  go_wp2_with fail
  refine (CloneD_any L.length p d fp w2 D2.out (by omega)).mono ?_
  rintro e w3 ⟨q, fq, rfl, hc3, hb3, hf3⟩
  have hS3 := S2.out.below S2.out.lt hb3
  have hld3 := loadD_at hS3
  have hst3 := storeD_at (r := rdOf d) (ad := ad) (n := n) (c := c) (DskAt.new w3 rd0 (.slice none 0 0))
  obtain ⟨w4, hw4⟩ : ∃ w4, setD (w3.alloc (.cells (rdC rd0 (.slice none 0 0)) 27)) w3.heap.size (rdOf d) (.slice ad n c) = w4 := ⟨_, rfl⟩
  rw [hw4] at hst3
  have hs23 := hb3.size
  have hlS := S2.out.lt
  have hst4 : ∀ b, b < w3.heap.size → w4.heap[b]? = w3.heap[b]? := fun b hb => by rw [← hw4, setD_far _ _ _ _ _ (by omega), alloc_old _ _ hb]
  have hz4 : w4.heap.size = w3.heap.size + 1 := by rw [← hw4, setD_size]; simp
  have R4 : Hid (RefIs (fun b => b < w1.heap.size) w4 (rdV (rdOf d) (.slice ad n c)) d) := (R2.out.below hb3).same (by omega) fun b _ hb => hst4 b hb
  have S4 : Hid (DskAt w4 w1.heap.size (rdOf d) (.slice ad n c)) := (hst4 _ (by omega)).trans hS3
  have D4 : Hid (DiskAt L.length w4 p d fp) := (D2.out.below hb3).same fun b hb => hst4 b (by have := HLF.out b hb; omega)
  have hwz := B2.out.size
  have HA4 : Hid (AllR w w3.heap.size q d w4 L.length fq ad n c) := by
    refine ⟨hc3.same fun b hb => hst4 b (hc3.lt b hb), R4.out.mono fun b _ hb => ⟨by omega, fun hm => by have := hf3 b hm; omega⟩, hw4 ▸ (DskAt.new w3 rd0 (.slice none 0 0)).set, ?_, fun b hb => by have := hf3 b hb; omega, fun hm => by have := hc3.lt _ hm; omega, by omega⟩
    rw [← hw4]
    exact setD_below ((B2.out.trans (hb3.mono hwz)).alloc (by omega) _) (by omega) _ _
  have HFQ : Hid (∀ b ∈ fq, w2.heap.size ≤ b) := hf3
  clear hc3 hb3 hf3 hst hw4 hst4 hS3 D2 R2 S2
  go_wp2_with fail
  clear hld3 hst3
  go_loopw [32] (fun v wr => ∃ (k : Nat) (fq' : List Nat) (ad' : Option Addr) (n' c' : Nat), v = .int .i64 k ∧ k ≤ M.length ∧ AllR w w3.heap.size q (onD d (M.take k)) wr (L.length + k) fq' ad' n' c' ∧ Keep w4 w3.heap.size fq wr fq') (fun v _ => M.length - (intOf v).toNat)
  case atStart => exact ⟨0, fq, ad, n, c, rfl, Nat.zero_le _, HA4.out, Nat.le_refl _, fun _ _ _ _ => rfl, fun b hb => .inl hb⟩
  case round =>
    clear HA4
    obtain ⟨k, fq', ad', n', c', rfl, hk, hI, hKp⟩ := hrel
    have HI : Hid (AllR w w3.heap.size q (onD d (M.take k)) wr (L.length + k) fq' ad' n' c') := hI
    have HKP : Hid (Keep w4 w3.heap.size fq wr fq') := hKp
    clear hI hKp
    by_cases hlt : k < M.length
    · obtain ⟨b, off, rfl, hbw, hel⟩ := HCS.out (by omega)
      obtain ⟨o, ho⟩ : ∃ o, M[k]? = some o := ⟨_, List.getElem?_eq_getElem hlt⟩
      obtain ⟨hfit, bv, c0, c1, c2, c3, hrow⟩ := hel k o ho
      obtain ⟨ao2, cap2, rfl, hcap2⟩ := hrow.shape
      have HFit : Hid o.fits := hfit
      have HRow : Hid (Row w.heap.size w (.slice ao2 o.xs.length cap2) o.xs) := hrow
      have hBw := HI.out.below
      have d0 := (hBw.cell (p := ⟨b, off + k * 4, none⟩) hbw).trans c0
      have d1 := (hBw.cell (p := ⟨b, off + k * 4 + 1, none⟩) hbw).trans c1
      have d2 := (hBw.cell (p := ⟨b, off + k * 4 + 2, none⟩) hbw).trans c2
      have d3 := (hBw.cell (p := ⟨b, off + k * 4 + 3, none⟩) hbw).trans c3
      have hlt' : (k : Int) < (M.length : Int) := by omega
      have hsz := hBw.size
      have HBS : Hid (onD d (M.take (k + 1)) = doD (onD d (M.take k)) o) := onD_snoc d ho
      obtain ⟨dd, hdd⟩ : ∃ dd, onD d (M.take k) = dd := ⟨_, rfl⟩
      rw [hdd] at HI HBS
      obtain ⟨wx, hwx⟩ : ∃ wx, wr.alloc (.cells #[.int .i64 o.kind, .int .u64 o.area, .int .i64 o.n, .slice ao2 o.xs.length cap2] 38) = wx := ⟨_, rfl⟩
      have HX : Hid (AllR w w3.heap.size q dd wx (L.length + k) fq' ad' n' c') := hwx ▸ HI.out.alloc _
      have HKX : Hid (Keep w4 w3.heap.size fq wx fq') := by
        rw [← hwx]
        have hq := HKP.out
        exact ⟨by have := hq.size; simp; omega, fun b hb h1 h2 => (alloc_old _ _ (by have := hq.size; omega)).trans (hq.block b hb h1 h2), hq.sub⟩
      have HOX : Hid (wx.heap[wr.heap.size]? = some (.cells #[.int .i64 o.kind, .int .u64 o.area, .int .i64 o.n, .slice ao2 o.xs.length cap2] 38 (0, 0))) := hwx ▸ alloc_new _ _
      have hsx : wx.heap.size = wr.heap.size + 1 := by rw [← hwx]; simp
      have hldx := loadD_at HX.out.rb
      rw [← hwx] at hldx
      have HWX : Hid (wr.alloc (.cells #[.int .i64 o.kind, .int .u64 o.area, .int .i64 o.n, .slice ao2 o.xs.length cap2] 38) = wx) := hwx
      clear hel c0 c1 c2 c3 hfit hrow ho hBw hdd hwx
      go_wp2_with fail
      rw [HWX.out]
      clear hldx HWX d0 d1 d2 d3
      refine (refDo_any (fun b => b ≠ w3.heap.size ∧ b ∉ fq') (L.length + k) w.heap.size dd _ o _ wx HX.out.ref HX.out.dk.ok (by omega) HFit.out (HRow.out.below HX.out.below) HX.out.below.size).mono ?_
      rintro e w3' ⟨v3, rfl, hR3, hb3⟩
      obtain ⟨ad3, n3, c3, rfl⟩ := hR3.form
      obtain ⟨dq, hdq⟩ : ∃ dq, doD dd o = dq := ⟨_, rfl⟩
      rw [hdq] at hR3 HBS
      rw [hdq]
      have HDQ : Hid (doD dd o = dq) := hdq
      have HR3 : Hid (RefIs (fun b => (b ≠ w3.heap.size ∧ b ∉ fq') ∨ wx.heap.size ≤ b) w3' (rdV (rdOf dq) (.slice ad3 n3 c3)) dq) := hR3
      have HB3 : Hid (Below wx.heap.size wx w3') := hb3
      have hs3 := hb3.size
      obtain ⟨eq, heq⟩ : ∃ eq, doE dd o = eq := ⟨_, rfl⟩
      rw [heq]
      have HEQ : Hid (doE dd o = eq) := heq
      have hst4 := storeD_at (r := rdOf dq) (ad := ad3) (n := n3) (c := c3) (DskAt.new w3' rd0 (.slice none 0 0))
      obtain ⟨w4', hw4'⟩ : ∃ w4', setD (w3'.alloc (.cells (rdC rd0 (.slice none 0 0)) 27)) w3'.heap.size (rdOf dq) (.slice ad3 n3 c3) = w4' := ⟨_, rfl⟩
      rw [hw4'] at hst4
      have hS4 : DskAt w4' w3'.heap.size (rdOf dq) (.slice ad3 n3 c3) := hw4' ▸ (DskAt.new w3' rd0 (.slice none 0 0)).set
      have hf4 : ∀ b, b < w3'.heap.size → w4'.heap[b]? = w3'.heap[b]? := fun b hb => by rw [← hw4', setD_far _ _ _ _ _ (by omega), alloc_old _ _ hb]
      have hbr4 : DskAt w4' w3.heap.size (rdOf dd) (.slice ad' n' c') := (hf4 _ (by have := HX.out.rb.lt; omega)).trans (HX.out.rb.below HX.out.rb.lt hb3)
      have hz4' : w4'.heap.size = w3'.heap.size + 1 := by rw [← hw4', setD_size]; simp
      have hB4 := hw4' ▸ setD_below ((Below.refl 0 w3').alloc (Nat.zero_le _) (.cells (rdC rd0 (.slice none 0 0)) 27)) (Nat.zero_le w3'.heap.size) (rdOf dq) (.slice ad3 n3 c3)
      have hld4 := loadD_at hS4
      have hst5 := storeD_at (r := rdOf dq) (ad := ad3) (n := n3) (c := c3) hbr4
      obtain ⟨w5', hw5'⟩ : ∃ w5', setD w4' w3.heap.size (rdOf dq) (.slice ad3 n3 c3) = w5' := ⟨_, rfl⟩
      rw [hw5'] at hst5
      have hrb5 : DskAt w5' w3.heap.size (rdOf dq) (.slice ad3 n3 c3) := hw5' ▸ hbr4.set
      have H5 : Hid (∀ b, b ≠ w3.heap.size → b ≠ w3'.heap.size → b < w3'.heap.size → w5'.heap[b]? = w3'.heap[b]?) := fun b h1 h2 h3 => by rw [← hw5', setD_far _ _ _ _ _ h1]; exact hf4 b h3
      have hz5 : w5'.heap.size = w3'.heap.size + 1 := by rw [← hw5', setD_size]; exact hz4'
      have HO5 : Hid (w5'.os = w3'.os ∧ w5'.tape = w3'.tape ∧ w5'.output = w3'.output) := by
        have hB5 := hw5' ▸ setD_below hB4 (Nat.zero_le w3.heap.size) (rdOf dq) (.slice ad3 n3 c3)
        exact ⟨hB5.os, hB5.tape, hB5.output⟩
      have HRB5 : Hid (DskAt w5' w3.heap.size (rdOf dq) (.slice ad3 n3 c3)) := hrb5
      have hlbr := HX.out.rb.lt
      have hbr1 : w3.heap.size < wr.heap.size := HI.out.rb.lt
      have ho5 : w5'.heap[wr.heap.size]? = some (.cells #[.int .i64 o.kind, .int .u64 o.area, .int .i64 o.n, .slice ao2 o.xs.length cap2] 38 (0, 0)) := by
        rw [H5.out _ (by omega) (by omega) (by omega), hb3.block _ (by omega)]
        exact HOX.out
      obtain ⟨o0, o1, o2, o3, _⟩ := four_cells ho5
      have HD5 : Hid (DiskAt (L.length + k) w5' q dd fq') := ((HX.out.dk.below hb3).same fun b hb => by
        have hl := HX.out.dk.lt b hb
        exact H5.out b (fun e => HX.out.nfp (e ▸ hb)) (by omega) (by omega))
      have HB5 : Hid (Below w.heap.size w w5') := by
        have e1 : Below w.heap.size w w3' := HX.out.below.trans (hb3.mono HX.out.below.size)
        exact (e1.trans ⟨HO5.out.1, HO5.out.2.1, HO5.out.2.2, by omega, fun b hb => H5.out b (by have := HX.out.ge; omega) (by have := e1.size; omega) (by have := e1.size; omega)⟩)
      clear hR3 hb3 hdq heq hw4' hw5' hS4 hf4 hbr4 hB4 hrb5 ho5
      go_wp2_with fail
      refine (does_any (L.length + k) q dd fq' o (.slice ao2 o.xs.length cap2) w5' HD5.out HFit.out (row_xx HRow.out HB5.out HX.out.fpb) (by omega)).mono ?_
      rintro e w6 ⟨rfl, fp6, hd6, ho6, hf6⟩
      rw [HEQ.out]
      rw [HDQ.out] at hd6
      have HN : Hid (AllR w w3.heap.size q dq w6 (L.length + k + 1) fp6 ad3 n3 c3) := HX.out.next (w5 := w5') HR3.out HB3.out (Nat.le_refl _) H5.out (by omega) HO5.out.1 HO5.out.2.1 HO5.out.2.2 HRB5.out hd6 ho6 hf6
      have HKN : Hid (Keep w4 w3.heap.size fq w6 fp6) := HKX.out.next HB3.out (Nat.le_refl _) H5.out (by omega) ho6 hf6
      clear hd6 ho6 hf6 hld4 hst4 hst5 o0 o1 o2 o3
      go_wp2_with fail
      go_roundw
      case rel => exact ⟨k + 1, fp6, ad3, n3, c3, by go_num, by omega, by rw [HBS.out]; exact HN.out, HKN.out⟩
      case measure => simp [intOf]; omega
    · have hxn : ¬ ((k : Int) < (M.length : Int)) := by omega
      have hlk := HKP.out
      have far : ∀ b, b < w2.heap.size → wr.heap[b]? = w4.heap[b]? := fun b hb => hlk.block b (by omega) (by omega) (fun hm => by have := HFQ.out b hm; omega)
      have D5 : Hid (DiskAt L.length wr p d fp) := D4.out.same fun b hb => far b (by have := HLF.out b hb; omega)
      have R5 : Hid (RefIs (fun b => b < w1.heap.size) wr (rdV (rdOf d) (.slice ad n c)) d) := R4.out.same hlk.size fun b hb _ => far b (by omega)
      have S5 : DskAt wr w1.heap.size (rdOf d) (.slice ad n c) := (far _ (by omega)).trans S4.out
      have hld := loadD_at S5
      have HSO2 : Hid (SecsOk (onD d (M.take k)).secs) := onD_ok HSO.out _
      clear hlk far S5
      go_wp2_with fail
      refine (stands_any _ L.length p d fp _ wr D5.out R5.out HSO.out (by omega)).mono ?_
      rintro e w6 ⟨rfl, hb6⟩
      have HN6 : Hid (AllR w w3.heap.size q (onD d (M.take k)) w6 (L.length + k) fq' ad' n' c') := HI.out.then hb6
      have hld6 := loadD_at HN6.out.rb
      clear hb6 hld
      go_wp2_with fail
      refine (stands_any _ (L.length + k) q (onD d (M.take k)) fq' _ w6 HN6.out.dk HN6.out.ref HSO2.out (by omega)).mono ?_
      rintro e w7 ⟨rfl, hb7⟩
      have B7 : Hid (Below w.heap.size w w7) := HN6.out.below.trans (hb7.mono HN6.out.below.size)
      clear hb7
      go_wp2_with fail
      go_ret
      exact ⟨rfl, B7.out⟩
end Go.Proofs.Ytpmmpdkeahmdiaa
