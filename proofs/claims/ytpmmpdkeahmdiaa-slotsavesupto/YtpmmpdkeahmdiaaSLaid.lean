/- Stage 4: a disk behind calls, and the document's. -/
import Derived.Test.YtpmmpdkeahmdiaaBegun
namespace Go.Proofs.Ytpmmpdkeahmdiaa
open Go.RowKit
set_option maxRecDepth 100000

attribute [local go_sem ↓] exec_alloc_D exec_box_D exec_load_D exec_store_D
attribute [local go_sem] rdV_cells rdC_0 rdC_1 rdC_2 rdC_3 rdC_4 rdC_5
theorem retD4 {fn : Func} {R : Ending → World → Prop} {a : Act} {w : World} {b t u : Nat} {r : RD} {ad : Option Addr} {n c : Nat} {x : Value} (hf : fn.results = #[.tmp u, .cell t 27]) (hu : a.tmps[u]? = some x) (ht : a.tmps[t]? = some (.pointer (some ⟨b, 0, none⟩)))
    (hb : DskAt w b r (.slice ad n c)) (hd : a.defers = []) (hR : R (.returned (.tuple #[x, rdV r (.slice ad n c)])) w) : bodyPost Try.prog fn R .ret a w := by
  obtain ⟨c0, c1, c2, c3, c4, c5, cz⟩ := six_cells hb
  refine bodyPost_ret ?_ hd hR
  unfold rdV
  simp [results, hf, ht, hu, go_sem, c0, c1, c2, c3, c4, c5]
  try rfl
def LaidSays (room : Int) (L : List OpC) (w : World) (e : Ending) (w' : World) : Prop :=
  ∃ p fp rv, e = .returned (.tuple #[.pointer (some ⟨p, 0, none⟩), rv]) ∧ DiskAt L.length w' p (behind room L) fp ∧ RefIs (fun b => b ∉ fp) w' rv (behind room L) ∧ Below w.heap.size w w' ∧ ∀ b ∈ fp, w.heap.size ≤ b
set_option maxHeartbeats 1000000 in
theorem laid_any (room : Int) (v : Value) (w : World) (L : List OpC) (hS : Script w v L) (h1 : -9223372036854775808 ≤ room) (h2 : room ≤ 9223372036854775807) (hL : L.length ≤ 1048576) :
    Calls Try.prog 28 #[.int .i64 room, v] w (LaidSays room L w) := by
  obtain ⟨ao, cap, rfl, hcap, _, hcs⟩ := hS
  have HCS : Hid (0 < L.length → ∃ b off, ao = some ⟨b, off, none⟩ ∧ b < w.heap.size ∧ ∀ (i : Nat) (o : OpC), L[i]? = some o → o.fits ∧ ∃ bv,
    w.cell? ⟨b, off + i * 4, none⟩ = some (.int .i64 o.kind) ∧ w.cell? ⟨b, off + i * 4 + 1, none⟩ = some (.int .u64 o.area) ∧ w.cell? ⟨b, off + i * 4 + 2, none⟩ = some (.int .i64 o.n) ∧ w.cell? ⟨b, off + i * 4 + 3, none⟩ = some bv ∧ Row w.heap.size w bv o.xs) := hcs
  clear hcs
  go_enter Try.func28, Try.ntmps28
  go_wp2_with fail
  obtain ⟨w0, hw0⟩ : ∃ w0, w.alloc (.cells (rdC rd0 (.slice none 0 0)) 27) = w0 := ⟨_, rfl⟩
  rw [hw0]
  have hs0 : w0.heap.size = w.heap.size + 1 := by rw [← hw0]; simp
  have D0 : Hid (DskAt w0 w.heap.size rd0 (.slice none 0 0)) := hw0 ▸ DskAt.new w rd0 _
  have B0 : Hid (Below w.heap.size w w0) := hw0 ▸ (Below.refl _ w).alloc (Nat.le_refl _) _
  clear hw0
  refine (New_any room w0 h1 h2).mono ?_
  rintro e w1 ⟨p, fp, rfl, hd1, hb1, hf1⟩
  have D1 : Hid (DskAt w1 w.heap.size rd0 (.slice none 0 0)) := D0.out.below (by omega) hb1
  have B1 : Hid (Below w.heap.size w w1) := B0.out.trans (hb1.mono (by omega))
  have HD1 : Hid (DiskAt 0 w1 p (newD room) fp) := hd1
  have HF1 : Hid (∀ b ∈ fp, w.heap.size + 1 ≤ b) := fun b hb => by have := hf1 b hb; omega
  have hs1 := hb1.size
  clear hd1 hb1 hf1
  go_wp2_with fail
  refine (refNew_any room w1).mono ?_
  rintro e w2 ⟨rfl, hb2⟩
  rw [← rdOf_new]
  have D2 : Hid (DskAt w2 w.heap.size rd0 (.slice none 0 0)) := D1.out.below (by omega) hb2
  have B2 : Hid (Below w.heap.size w w2) := B1.out.trans (hb2.mono (by omega))
  have HD2 : Hid (DiskAt 0 w2 p (newD room) fp) := HD1.out.below hb2
  have hs2 := hb2.size
  have hst3 := storeD_at (r := rdOf (newD room)) (ad := none) (n := 0) (c := 0) (DskAt.new w2 rd0 (.slice none 0 0))
  obtain ⟨w3, hw3⟩ : ∃ w3, setD (w2.alloc (.cells (rdC rd0 (.slice none 0 0)) 27)) w2.heap.size (rdOf (newD room)) (.slice none 0 0) = w3 := ⟨_, rfl⟩
  rw [hw3] at hst3
  have hBR : BegR w w.heap.size w2.heap.size p (newD room) w3 0 fp none 0 0 := by
    have hlt := HD2.out.lt
    have hsD := D2.out.lt
    have hst : ∀ b, b < w2.heap.size → w3.heap[b]? = w2.heap[b]? := fun b hb => by rw [← hw3, setD_far _ _ _ _ _ (by omega), alloc_old _ _ hb]
    refine ⟨HD2.out.same fun b hb => hst b (hlt b hb), ⟨_, [], rfl, SecRow.nil _ _, rfl⟩, hw3 ▸ (DskAt.new w2 rd0 (.slice none 0 0)).set, (hst _ hsD).trans D2.out, ?_, fun b hb => by have := HF1.out b hb; omega, ⟨fun hm => by have := hlt _ hm; omega, fun hm => by have := HF1.out _ hm; omega⟩, ⟨B2.out.size, Nat.le_refl _, by omega⟩⟩
    rw [← hw3]
    exact setD_below (B2.out.alloc B2.out.size _) B2.out.size _ _
  have HBR : Hid (BegR w w.heap.size w2.heap.size p (newD room) w3 0 fp none 0 0) := hBR
  clear hb2 hw3 hBR D0 B0 D1 B1 HD1
  go_wp2_with fail
  go_loopw [19] (fun v wr => ∃ (k : Nat) (fp : List Nat) (ad : Option Addr) (n c : Nat), v = .int .i64 k ∧ k ≤ L.length ∧ BegR w w.heap.size w2.heap.size p (behind room (L.take k)) wr k fp ad n c) (fun v _ => L.length - (intOf v).toNat)
  case atStart => exact ⟨0, fp, none, 0, 0, rfl, Nat.zero_le _, HBR.out⟩
  case round =>
    clear HBR HD2 HF1 D2 B2
    obtain ⟨k, fp, ad, n, c, rfl, hk, hI⟩ := hrel
    have HI : Hid (BegR w w.heap.size w2.heap.size p (behind room (L.take k)) wr k fp ad n c) := hI
    clear hI
    by_cases hlt : k < L.length
    · obtain ⟨b, off, rfl, hbw, hel⟩ := HCS.out (by omega)
      obtain ⟨o, ho⟩ : ∃ o, L[k]? = some o := ⟨_, List.getElem?_eq_getElem hlt⟩
      obtain ⟨hfit, bv, c0, c1, c2, c3, hrow⟩ := hel k o ho
      obtain ⟨ao2, cap2, rfl, hcap2⟩ := hrow.shape
      have HFit : Hid o.fits := hfit
      have HRow : Hid (Row w.heap.size w (.slice ao2 o.xs.length cap2) o.xs) := hrow
      have hBw := HI.out.below
      have d0 := (hBw.cell (p := ⟨b, off + k * 4, none⟩) hbw).trans c0
      have d1 := (hBw.cell (p := ⟨b, off + k * 4 + 1, none⟩) hbw).trans c1
      have d2 := (hBw.cell (p := ⟨b, off + k * 4 + 2, none⟩) hbw).trans c2
      have d3 := (hBw.cell (p := ⟨b, off + k * 4 + 3, none⟩) hbw).trans c3
      have hlt' : (k : Int) < (L.length : Int) := by omega
      have hsz := hBw.size
      have HBS : Hid (behind room (L.take (k + 1)) = doD (behind room (L.take k)) o) := behind_snoc room ho
      obtain ⟨dd, hdd⟩ : ∃ dd, behind room (L.take k) = dd := ⟨_, rfl⟩
      rw [hdd] at HI HBS
      obtain ⟨wx, hwx⟩ : ∃ wx, wr.alloc (.cells #[.int .i64 o.kind, .int .u64 o.area, .int .i64 o.n, .slice ao2 o.xs.length cap2] 38) = wx := ⟨_, rfl⟩
      have HX : Hid (BegR w w.heap.size w2.heap.size p dd wx k fp ad n c) := hwx ▸ HI.out.alloc _
      have hox : wx.heap[wr.heap.size]? = some (.cells #[.int .i64 o.kind, .int .u64 o.area, .int .i64 o.n, .slice ao2 o.xs.length cap2] 38 (0, 0)) := hwx ▸ alloc_new _ _
      have HOX : Hid (wx.heap[wr.heap.size]? = some (.cells #[.int .i64 o.kind, .int .u64 o.area, .int .i64 o.n, .slice ao2 o.xs.length cap2] 38 (0, 0))) := hox
      have hsx : wx.heap.size = wr.heap.size + 1 := by rw [← hwx]; simp
      have hldx := loadD_at HX.out.rb
      rw [← hwx] at hldx
      have HWX : Hid (wr.alloc (.cells #[.int .i64 o.kind, .int .u64 o.area, .int .i64 o.n, .slice ao2 o.xs.length cap2] 38) = wx) := hwx
      clear hel c0 c1 c2 c3 hfit hrow ho hBw hdd hwx hox
      go_wp2_with fail
      rw [HWX.out]
      clear hldx HWX d0 d1 d2 d3
      refine (refDo_any (fun b => b ≠ w2.heap.size ∧ b ≠ w.heap.size ∧ b ∉ fp) k w.heap.size dd _ o _ wx HX.out.ref HX.out.dk.ok (by omega) HFit.out (HRow.out.below HX.out.below) HX.out.below.size).mono ?_
      rintro e w3' ⟨v3, rfl, hR3, hb3⟩
      obtain ⟨ad3, n3, c3, rfl⟩ := hR3.form
      obtain ⟨dq, hdq⟩ : ∃ dq, doD dd o = dq := ⟨_, rfl⟩
      rw [hdq] at hR3 HBS
      rw [hdq]
      have HDQ : Hid (doD dd o = dq) := hdq
      have HR3 : Hid (RefIs (fun b => (b ≠ w2.heap.size ∧ b ≠ w.heap.size ∧ b ∉ fp) ∨ wx.heap.size ≤ b) w3' (rdV (rdOf dq) (.slice ad3 n3 c3)) dq) := hR3
      have HB3 : Hid (Below wx.heap.size wx w3') := hb3
      have hs3 := hb3.size
      obtain ⟨eq, heq⟩ : ∃ eq, doE dd o = eq := ⟨_, rfl⟩
      rw [heq]
      have HEQ : Hid (doE dd o = eq) := heq
      have hbr4 : DskAt w3' w2.heap.size (rdOf dd) (.slice ad n c) := HX.out.rb.below HX.out.rb.lt hb3
      have hst5 := storeD_at (r := rdOf dq) (ad := ad3) (n := n3) (c := c3) hbr4
      obtain ⟨w5', hw5'⟩ : ∃ w5', setD w3' w2.heap.size (rdOf dq) (.slice ad3 n3 c3) = w5' := ⟨_, rfl⟩
      rw [hw5'] at hst5
      have hrb5 : DskAt w5' w2.heap.size (rdOf dq) (.slice ad3 n3 c3) := hw5' ▸ hbr4.set
      have H5 : Hid (∀ b, b ≠ w2.heap.size → b ≠ w3'.heap.size → b < w3'.heap.size → w5'.heap[b]? = w3'.heap[b]?) := fun b h1 h2 h3 => by rw [← hw5', setD_far _ _ _ _ _ h1]
      have hz5 : w5'.heap.size = w3'.heap.size := by rw [← hw5', setD_size]
      have HO5 : Hid (w5'.os = w3'.os ∧ w5'.tape = w3'.tape ∧ w5'.output = w3'.output) := by
        have hB5 := hw5' ▸ setD_below (Below.refl 0 w3') (Nat.zero_le w2.heap.size) (rdOf dq) (.slice ad3 n3 c3)
        exact ⟨hB5.os, hB5.tape, hB5.output⟩
      have HRB5 : Hid (DskAt w5' w2.heap.size (rdOf dq) (.slice ad3 n3 c3)) := hrb5
      have hlbr := HX.out.rb.lt
      have ho5 : w5'.heap[wr.heap.size]? = some (.cells #[.int .i64 o.kind, .int .u64 o.area, .int .i64 o.n, .slice ao2 o.xs.length cap2] 38 (0, 0)) := by
        rw [H5.out _ (by have := HI.out.rb.lt; omega) (by omega) (by omega), hb3.block _ (by omega)]
        exact HOX.out
      obtain ⟨q0, q1, q2, q3, _⟩ := four_cells ho5
      have HD5 : Hid (DiskAt k w5' p dd fp) := (HX.out.dk.below hb3).same fun b hb => by
        have hl := HX.out.dk.lt b hb
        exact H5.out b (fun e => HX.out.nfp.1 (e ▸ hb)) (by omega) (by omega)
      have HB5 : Hid (Below w.heap.size w w5') := by
        have e1 : Below w.heap.size w w3' := HX.out.below.trans (hb3.mono HX.out.below.size)
        exact e1.trans ⟨HO5.out.1, HO5.out.2.1, HO5.out.2.2, by omega, fun b hb => H5.out b (by have := HX.out.ge.1; omega) (by have := e1.size; omega) (by have := e1.size; omega)⟩
      have NX : Hid (∀ (w6 : World) (fp6 : List Nat), DiskAt (k + 1) w6 p (doD dd o) fp6 → Only fp w5' w6 → (∀ b ∈ fp6, b ∈ fp ∨ w5'.heap.size ≤ b) → BegR w w.heap.size w2.heap.size p (behind room (L.take (k + 1))) w6 (k + 1) fp6 ad3 n3 c3) := fun w6 fp6 hd6 ho6 hf6 => by
        rw [HDQ.out] at hd6
        rw [HBS.out]
        exact HX.out.next HR3.out HB3.out (Nat.le_refl _) H5.out (by omega) HO5.out.1 HO5.out.2.1 HO5.out.2.2 HRB5.out hd6 ho6 hf6
      have HRX : Hid (RowX fp w5' (.slice ao2 o.xs.length cap2) o.xs) := row_xx HRow.out HB5.out HX.out.fpb
      have f1 := HFit.out.n1
      have f2 := HFit.out.n2
      clear hR3 hb3 hdq heq hw5' hbr4 hrb5 ho5
      by_cases k0 : o.kind = 0
      · have HDD : Hid (doD dd o = wrD dd o.area o.n o.xs) := by show _ = _; rw [doD, if_pos k0]
        rw [k0] at q0
        clear k0
        go_wp2_with fail
        refine (Write_any k p dd fp _ _ _ o.xs _ HD5.out HRX.out HFit.out.len (by omega)).mono ?_
        rintro e w6 ⟨rfl, fp6, hd6, ho6, hf6⟩
        have HN := NX.out w6 fp6 (by rw [HDD.out]; exact hd6) ho6 hf6
        have HN6 : Hid (BegR w w.heap.size w2.heap.size p (behind room (L.take (k + 1))) _ (k + 1) _ ad3 n3 c3) := HN
        clear HN ho6 hd6
        go_wp2_with fail
        go_roundw
        case rel => exact ⟨k + 1, _, ad3, n3, c3, by go_num, by omega, HN6.out⟩
        case measure => simp [intOf]; omega
      · by_cases k1 : o.kind = 1
        · have HDD : Hid (doD dd o = syD dd o.area) := by show _ = _; rw [doD, if_neg k0, if_pos k1]
          rw [k1] at q0
          clear k0 k1
          go_wp2_with fail
          refine (Sync_any k p dd fp _ _ HD5.out (by omega)).mono ?_
          rintro e w6 ⟨rfl, fp6, hd6, ho6, hf6⟩
          have HN := NX.out w6 fp6 (by rw [HDD.out]; exact hd6) ho6 hf6
          have HN6 : Hid (BegR w w.heap.size w2.heap.size p (behind room (L.take (k + 1))) _ (k + 1) _ ad3 n3 c3) := HN
          clear HN ho6 hd6
          go_wp2_with fail
          go_roundw
          case rel => exact ⟨k + 1, _, ad3, n3, c3, by go_num, by omega, HN6.out⟩
          case measure => simp [intOf]; omega
        · by_cases k2 : o.kind = 2
          · have HDD : Hid (doD dd o = frD dd o.area) := by show _ = _; rw [doD, if_neg k0, if_neg k1, if_pos k2]
            rw [k2] at q0
            clear k0 k1 k2
            go_wp2_with fail
            refine (Free_any k p dd fp _ _ HD5.out (by omega)).mono ?_
            rintro e w6 ⟨rfl, fp6, hd6, ho6, hf6⟩
            have HN := NX.out w6 fp6 (by rw [HDD.out]; exact hd6) ho6 (fun b hb => .inl (hf6 b hb))
            have HN6 : Hid (BegR w w.heap.size w2.heap.size p (behind room (L.take (k + 1))) _ (k + 1) _ ad3 n3 c3) := HN
            clear HN ho6 hd6
            go_wp2_with fail
            go_roundw
            case rel => exact ⟨k + 1, _, ad3, n3, c3, by go_num, by omega, HN6.out⟩
            case measure => simp [intOf]; omega
          · by_cases k3 : o.kind = 3
            · have HDD : Hid (doD dd o = armD dd o.n) := by show _ = _; rw [doD, if_neg k0, if_neg k1, if_neg k2, if_pos k3]
              rw [k3] at q0
              clear k0 k1 k2 k3
              go_wp2_with fail
              refine (Arm_any k p dd fp _ _ HD5.out f1 f2).mono ?_
              rintro e w6 ⟨rfl, hd6, ho6⟩
              have HN := NX.out w6 fp (by rw [HDD.out]; exact hd6.mono (by omega)) ho6 (fun b hb => .inl hb)
              have HN6 : Hid (BegR w w.heap.size w2.heap.size p (behind room (L.take (k + 1))) _ (k + 1) _ ad3 n3 c3) := HN
              clear HN ho6 hd6
              go_wp2_with fail
              go_roundw
              case rel => exact ⟨k + 1, _, ad3, n3, c3, by go_num, by omega, HN6.out⟩
              case measure => simp [intOf]; omega
            · have HDD : Hid (doD dd o = dd) := by show _ = _; rw [doD, if_neg k0, if_neg k1, if_neg k2, if_neg k3]
              have e0 : (o.kind == 0) = false := by simpa using k0
              have e1 : (o.kind == 1) = false := by simpa using k1
              have e2 : (o.kind == 2) = false := by simpa using k2
              have e3 : (o.kind == 3) = false := by simpa using k3
              clear k0 k1 k2 k3
              have HN := NX.out w5' fp (by rw [HDD.out]; exact HD5.out.mono (by omega)) (Only.of_below (Below.refl _ _)) (fun b hb => .inl hb)
              have HN6 : Hid (BegR w w.heap.size w2.heap.size p (behind room (L.take (k + 1))) _ (k + 1) _ ad3 n3 c3) := HN
              clear HN
              go_wp2_with fail
              go_roundw
              case rel => exact ⟨k + 1, _, ad3, n3, c3, by go_num, by omega, HN6.out⟩
              case measure => simp [intOf]; omega
    · have hxn : ¬ ((k : Int) < (L.length : Int)) := by omega
      have hkk : k = L.length := by omega
      have R0 : DskAt wr.drew w.heap.size rd0 (.slice none 0 0) := HI.out.r0
      have RB : DskAt wr.drew w2.heap.size (rdOf (behind room (L.take k))) (.slice ad n c) := HI.out.rb
      obtain ⟨dd, hdd⟩ : ∃ dd, behind room (L.take k) = dd := ⟨_, rfl⟩
      rw [hdd] at RB HI
      have hldd := loadD_at RB
      have hstd := storeD_at (r := rdOf dd) (ad := ad) (n := n) (c := c) R0
      obtain ⟨w7, hw7⟩ : ∃ w7, setD wr.drew w.heap.size (rdOf dd) (.slice ad n c) = w7 := ⟨_, rfl⟩
      rw [hw7] at hstd
      have HR7 : Hid (DskAt w7 w.heap.size (rdOf dd) (.slice ad n c)) := hw7 ▸ R0.set
      have HE : Hid (LaidSays room L w (.returned (.tuple #[.pointer (some ⟨p, 0, none⟩), rdV (rdOf dd) (.slice ad n c)])) w7) := by
        have h := HI.out
        have hdL : behind room L = dd := by rw [← hdd, hkk, List.take_length]
        have hst : ∀ b, b ≠ w.heap.size → w7.heap[b]? = wr.heap[b]? := fun b hb => by rw [← hw7, setD_far _ _ _ _ _ hb]; rfl
        have hsz : w7.heap.size = wr.heap.size := by rw [← hw7, setD_size]; rfl
        refine ⟨p, fp, _, rfl, ?_, ?_, ?_, h.fpb⟩
        · rw [hdL, ← hkk]
          exact h.dk.same fun b hb => hst b fun e => h.nfp.2 (e ▸ hb)
        · rw [hdL]
          exact (h.ref.same (by omega) fun b hb _ => hst b hb.2.1).mono fun b _ hb => hb.2.2
        · rw [← hw7]
          exact setD_below h.below.drew (Nat.le_refl _) _ _
      clear hw7 R0 RB hdd
      go_wp2_with fail
      go_region
      all_goals (go_wp2_with fail)
      all_goals exact retD4 rfl rfl rfl HR7.out rfl HE.out
end Go.Proofs.Ytpmmpdkeahmdiaa
