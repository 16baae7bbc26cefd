/- DiskArmed. -/
import Derived.Test.YtlbpjfophgphaaaScript
namespace Go.Proofs.Ytlbpjfophgphaaa
open Go.RowKit
set_option maxRecDepth 100000

/-- A row of the arguments, beside a disk that was made since. -/
theorem row_x {W w : World} {fp : List Nat} {y : Value} {xs : List Nat} (h : Row W.heap.size W y xs) (hb : Below W.heap.size W w) (hf : ∀ b ∈ fp, W.heap.size ≤ b) : RowX fp w y xs := by
  refine ⟨(h.below hb).mono hb.size, fun b off len cap e h0 hm => ?_⟩
  obtain ⟨ao, cap', rfl, _, _, hc⟩ := h
  obtain ⟨b', off', e', hN, _⟩ := hc h0
  simp only [Value.slice.injEq] at e
  rw [e'] at e
  simp only [Option.some.injEq, Addr.mk.injEq] at e
  have := hf b hm
  omega
structure ArmInv (at_ : Int) (d c : DS) : Prop where
  secs : d.secs = c.secs
  room : d.room = c.room
  steps : d.steps = c.steps
  dd : d.dead = false
  cd : c.dead = false
  ca : c.armed = false
  da : d.armed = decide (0 ≤ at_)
  ah : 0 ≤ at_ → d.ahead = at_ - d.steps ∧ d.steps ≤ at_
theorem ArmInv.step {at_ : Int} {d c : DS} (h : ArmInv at_ d c) : (stepE d = 30 ∧ (stepD d).dead = true ∧ (stepD d).steps = at_ + 1 ∧ 0 ≤ at_) ∨ (stepE d = 0 ∧ stepE c = 0 ∧ ArmInv at_ (stepD d) (stepD c)) := by
  have nd : ¬ d.dead = true := by rw [h.dd]; simp
  have nc : ¬ c.dead = true := by rw [h.cd]; simp
  have ec : stepD c = { c with steps := c.steps + 1 } := by rw [stepD, if_neg nc, if_pos (by rw [h.ca]; rfl)]
  have ee : stepE c = 0 := by rw [stepE, if_neg nc, h.ca]; rfl
  by_cases ha : 0 ≤ at_
  · have hda : d.armed = true := by rw [h.da]; simpa using ha
    obtain ⟨h1, h2⟩ := h.ah ha
    by_cases h0 : d.ahead = 0
    · left
      have e : stepD d = { d with steps := d.steps + 1, dead := true } := by rw [stepD, if_neg nd, if_neg (by rw [hda]; simp), if_pos h0]
      refine ⟨by rw [stepE, if_neg nd, hda, h0]; rfl, by rw [e], ?_, ha⟩
      rw [e]
      show d.steps + 1 = _
      omega
    · right
      have hb : (d.ahead == 0) = false := by simpa using h0
      have e : stepD d = { d with steps := d.steps + 1, ahead := d.ahead - 1 } := by rw [stepD, if_neg nd, if_neg (by rw [hda]; simp), if_neg h0]
      refine ⟨by rw [stepE, if_neg nd, hda, hb]; rfl, ee, ?_⟩
      rw [e, ec]
      exact ⟨h.secs, h.room, by show d.steps + 1 = c.steps + 1; rw [h.steps], h.dd, h.cd, h.ca, h.da, fun _ => ⟨by show d.ahead - 1 = at_ - (d.steps + 1); omega, by show d.steps + 1 ≤ at_; omega⟩⟩
  · right
    have hda : d.armed = false := by rw [h.da]; simpa using ha
    have e : stepD d = { d with steps := d.steps + 1 } := by rw [stepD, if_neg nd, if_pos (by rw [hda]; rfl)]
    refine ⟨by rw [stepE, if_neg nd, hda]; rfl, ee, ?_⟩
    rw [e, ec]
    exact ⟨h.secs, h.room, by show d.steps + 1 = c.steps + 1; rw [h.steps], h.dd, h.cd, h.ca, h.da, fun h0 => absurd h0 ha⟩
theorem ArmInv.with {at_ : Int} {d c : DS} (h : ArmInv at_ d c) {S T : List Sec} (e : S = T) : ArmInv at_ { d with secs := S } { c with secs := T } := ⟨e, h.room, h.steps, h.dd, h.cd, h.ca, h.da, h.ah⟩
theorem ArmInv.does {at_ : Int} {d c : DS} (h : ArmInv at_ d c) (o : OpC) (hk : o.kind ≠ 3) : ((doD d o).dead = true ∧ 0 ≤ at_ ∧ (doD d o).steps = at_ + 1 ∧ doE d o = 30) ∨ ((doD d o).dead = false ∧ doE d o = doE c o ∧ ArmInv at_ (doD d o) (doD c o)) := by
  have nd : ¬ d.dead = true := by rw [h.dd]; simp
  have nc : ¬ c.dead = true := by rw [h.cd]; simp
  have hs := h.step
  by_cases k0 : o.kind = 0
  · have e1 : doD d o = wrD d o.area o.n o.xs := by rw [doD, if_pos k0]
    have e2 : doE d o = wrE d o.area o.n o.xs := by rw [doE, if_pos k0]
    have e3 : doD c o = wrD c o.area o.n o.xs := by rw [doD, if_pos k0]
    have e4 : doE c o = wrE c o.area o.n o.xs := by rw [doE, if_pos k0]
    rw [e1, e2, e3, e4, wrD, wrE, wrD, wrE, if_neg nd, if_neg nd, if_neg nc, if_neg nc]
    by_cases hf : formBad o.n o.xs
    · rw [if_pos hf, if_pos hf, if_pos hf, if_pos hf]
      exact .inr ⟨h.dd, rfl, h⟩
    · rw [if_neg hf, if_neg hf, if_neg hf, if_neg hf]
      have hfu : fullBad d o.area o.n ↔ fullBad c o.area o.n := by unfold fullBad; rw [h.secs, h.room]
      by_cases hb : fullBad d o.area o.n
      · rw [if_pos hb, if_pos hb, if_pos (hfu.1 hb), if_pos (hfu.1 hb)]
        exact .inr ⟨h.dd, rfl, h⟩
      · rw [if_neg hb, if_neg hb, if_neg (fun x => hb (hfu.2 x)), if_neg (fun x => hb (hfu.2 x))]
        rcases hs with ⟨s1, s2, s3, s4⟩ | ⟨s1, s2, s3⟩
        · exact .inl ⟨s2, s4, s3, s1⟩
        · exact .inr ⟨s3.dd, by rw [s1, s2], s3.with (by rw [h.secs])⟩
  · by_cases k1 : o.kind = 1
    · have e1 : doD d o = syD d o.area := by rw [doD, if_neg k0, if_pos k1]
      have e2 : doE d o = stepE d := by rw [doE, if_neg k0, if_pos k1]
      have e3 : doD c o = syD c o.area := by rw [doD, if_neg k0, if_pos k1]
      have e4 : doE c o = stepE c := by rw [doE, if_neg k0, if_pos k1]
      rw [e1, e2, e3, e4, syD, syD]
      rcases hs with ⟨s1, s2, s3, s4⟩ | ⟨s1, s2, s3⟩
      · rw [if_neg (by rw [s1]; decide)]
        exact .inl ⟨s2, s4, s3, s1⟩
      · rw [if_pos s1, if_pos s2]
        exact .inr ⟨s3.dd, by rw [s1, s2], s3.with (by rw [h.secs])⟩
    · by_cases k2 : o.kind = 2
      · have e1 : doD d o = frD d o.area := by rw [doD, if_neg k0, if_neg k1, if_pos k2]
        have e2 : doE d o = stepE d := by rw [doE, if_neg k0, if_neg k1, if_pos k2]
        have e3 : doD c o = frD c o.area := by rw [doD, if_neg k0, if_neg k1, if_pos k2]
        have e4 : doE c o = stepE c := by rw [doE, if_neg k0, if_neg k1, if_pos k2]
        rw [e1, e2, e3, e4, frD, frD]
        rcases hs with ⟨s1, s2, s3, s4⟩ | ⟨s1, s2, s3⟩
        · rw [if_neg (by rw [s1]; decide)]
          exact .inl ⟨s2, s4, s3, s1⟩
        · rw [if_pos s1, if_pos s2]
          exact .inr ⟨s3.dd, by rw [s1, s2], s3.with (by rw [h.secs])⟩
      · have e1 : ∀ d, doD d o = d := fun d => by rw [doD, if_neg k0, if_neg k1, if_neg k2, if_neg hk]
        have e2 : ∀ d, doE d o = 0 := fun d => by rw [doE, if_neg k0, if_neg k1, if_neg k2]
        rw [e1, e1, e2, e2]
        exact .inr ⟨h.dd, rfl, h⟩
set_option maxHeartbeats 4000000 in
theorem armed_walk (v : Value) (at_ : Int) (w : World) (L : List OpC) (hS : Script w v L) (h1 : -9223372036854775808 ≤ at_) (h2 : at_ ≤ 9223372036854775807) (hL : L.length ≤ 1048576) :
    Calls Try.prog 8 #[v, .int .i64 at_] w fun e w' => e = .returned (.bool true) ∧ Below w.heap.size w w' := by
  obtain ⟨ao, cap, rfl, hcap, _, hcs⟩ := hS
  have HCS : Hid _ := hcs
  clear hcs
  go_enter Try.func8, Try.ntmps8
  go_wp2_with fail
  refine (New_any 1073741824 w (by omega) (by omega)).mono ?_
  rintro e w1 ⟨p, fp, rfl, hd1, hb1, hf1⟩
  have HD1 : Hid (DiskAt 0 w1 p (newD 1073741824) fp) := hd1
  have HB1 : Hid (Below w.heap.size w w1) := hb1
  have HF1 : Hid (∀ b ∈ fp, w.heap.size ≤ b) := hf1
  clear hd1 hb1 hf1
  go_wp2_with fail
  refine (New_any 1073741824 w1 (by omega) (by omega)).mono ?_
  rintro e w2 ⟨q, fq, rfl, hd2, hb2, hf2⟩
  have HD2 : Hid (DiskAt 0 w2 p (newD 1073741824) fp) := HD1.out.below hb2
  have HQ2 : Hid (DiskAt 0 w2 q (newD 1073741824) fq) := hd2
  have hs1 := HB1.out.size
  have HB2 : Hid (Below w.heap.size w w2) := HB1.out.trans (hb2.mono hs1)
  have HDJ : Hid (∀ b ∈ fp, b ∉ fq) := fun b hb hm => by have := HD1.out.lt b hb; have := hf2 b hm; omega
  have HF2 : Hid (∀ b ∈ fq, w.heap.size ≤ b) := fun b hb => Nat.le_trans hs1 (hf2 b hb)
  clear hd2 hb2 hf2
  go_wp2_with fail
  refine (alive_any w2).mono ?_
  rintro e w3 ⟨rfl, hb3⟩
  have HD3 : Hid (DiskAt 0 w3 p (newD 1073741824) fp) := HD2.out.below hb3
  have HQ3 : Hid (DiskAt 0 w3 q (newD 1073741824) fq) := HQ2.out.below hb3
  have hs2 := HB2.out.size
  have HB3 : Hid (Below w.heap.size w w3) := HB2.out.trans (hb3.mono hs2)
  clear hb3
  go_wp2_with fail
  refine (Arm_any 0 p (newD 1073741824) fp at_ w3 HD3.out h1 h2).mono ?_
  rintro e w4 ⟨rfl, hd4, ho4⟩
  have HD4 : Hid (DiskAt 0 w4 p (armD (newD 1073741824) at_) fp) := hd4
  have HQ4 : Hid (DiskAt 0 w4 q (newD 1073741824) fq) := HQ3.out.apart ho4 (fun x hx hm => HDJ.out x hm hx)
  have HB4 : Hid (Below w.heap.size w w4) := HB3.out.trans (ho4.below HB3.out.size HF1.out)
  have HA : Hid (ArmInv at_ (armD (newD 1073741824) at_) (newD 1073741824)) := ⟨rfl, rfl, rfl, rfl, rfl, rfl, rfl, fun h => ⟨by show at_ = at_ - 0; omega, h⟩⟩
  clear hd4 ho4
  go_wp2_with fail
  go_loopw [27] (fun v wr => ∃ (k : Nat) (fp fq : List Nat) (d c : DS), v = .int .i64 k ∧ k ≤ L.length ∧ DiskAt k wr p d fp ∧ DiskAt k wr q c fq ∧ (∀ b ∈ fp, b ∉ fq) ∧ ArmInv at_ d c ∧ Below w.heap.size w wr ∧ (∀ b ∈ fp, w.heap.size ≤ b) ∧ ∀ b ∈ fq, w.heap.size ≤ b) (fun v _ => L.length - (intOf v).toNat)
  case atStart => exact ⟨0, fp, fq, _, _, rfl, Nat.zero_le _, HD4.out, HQ4.out, HDJ.out, HA.out, HB4.out, HF1.out, HF2.out⟩
  case round =>
    clear HD1 HB1 HF1 HD2 HQ2 HB2 HDJ HF2 HD3 HQ3 HB3 HD4 HQ4 HB4 HA
    obtain ⟨k, fp, fq, d, c, rfl, hk, hd, hq, hdj, ha, hb, hf, hg⟩ := hrel
    have HD : Hid (DiskAt k wr p d fp) := hd
    have HQ : Hid (DiskAt k wr q c fq) := hq
    have HDJ : Hid (∀ b ∈ fp, b ∉ fq) := hdj
    have HA : Hid (ArmInv at_ d c) := ha
    have HB : Hid (Below w.heap.size w wr) := hb
    have HF : Hid (∀ b ∈ fp, w.heap.size ≤ b) := hf
    have HG : Hid (∀ b ∈ fq, w.heap.size ≤ b) := hg
    clear hd hq hdj ha hb hf hg
    by_cases hlt : k < L.length
    · obtain ⟨b, off, rfl, hbw, hel⟩ := HCS.out (by omega)
      obtain ⟨hfit, bv, c0, c1, c2, c3, hrow⟩ := hel k L[k] (List.getElem?_eq_getElem hlt)
      generalize L[k] = o at *
      obtain ⟨ao2, cap2, rfl, hcap2⟩ := hrow.shape
      have HFit : Hid o.fits := hfit
      have HRow : Hid (Row w.heap.size w (.slice ao2 o.xs.length cap2) o.xs) := hrow
      have d0 := (HB.out.cell (p := ⟨b, off + k * 4, none⟩) hbw).trans c0
      have d1 := (HB.out.cell (p := ⟨b, off + k * 4 + 1, none⟩) hbw).trans c1
      have d2 := (HB.out.cell (p := ⟨b, off + k * 4 + 2, none⟩) hbw).trans c2
      have d3 := (HB.out.cell (p := ⟨b, off + k * 4 + 3, none⟩) hbw).trans c3
      have hlt' : (k : Int) < (L.length : Int) := by omega
      have hsz := HB.out.size
      clear hel c0 c1 c2 c3 hfit hrow
      have HBa : Hid (∀ ob, Below w.heap.size w (wr.alloc ob)) := fun ob => HB.out.alloc hsz ob
      by_cases k3 : o.kind = 3
      · rw [k3] at d0
        go_wp2_with fail
        go_roundw
        case rel => exact ⟨k + 1, fp, fq, d, c, by go_num, by omega, (HD.out.new _).mono (by omega), (HQ.out.new _).mono (by omega), HDJ.out, HA.out, HBa.out _, HF.out, HG.out⟩
        case measure => simp [intOf]; omega
      · have e3 : (o.kind == 3) = false := by simpa using k3
        have HSt : Hid (((doD d o).dead = true ∧ 0 ≤ at_ ∧ (doD d o).steps = at_ + 1 ∧ doE d o = 30) ∨ ((doD d o).dead = false ∧ doE d o = doE c o ∧ ArmInv at_ (doD d o) (doD c o))) := HA.out.does o k3
        clear k3
        go_wp2_with fail
        refine (does_any k p d fp o (.slice ao2 o.xs.length cap2) _ (HD.out.new _) HFit.out (row_x HRow.out (HBa.out _) HF.out) (by omega)).mono ?_
        rintro e w5 ⟨rfl, fp5, hd5, ho5, hf5⟩
        have hs0 := alloc_size wr (.cells #[.int .i64 o.kind, .int .u64 o.area, .int .i64 o.n, .slice ao2 o.xs.length cap2] 34)
        have HD5 : Hid (DiskAt (k + 1) w5 p (doD d o) fp5) := hd5
        have HQ5 : Hid (DiskAt k w5 q c fq) := (HQ.out.new _).apart ho5 (fun x hx hm => HDJ.out x hm hx)
        have HB5 : Hid (Below w.heap.size w w5) := (HBa.out _).trans (ho5.below (HBa.out _).size HF.out)
        have HF5 : Hid (∀ b ∈ fp5, w.heap.size ≤ b) := fun x hx => (hf5 x hx).elim (HF.out x) (fun h => by omega)
        have HDJ5 : Hid (∀ b ∈ fp5, b ∉ fq) := fun x hx hm => by
          rcases hf5 x hx with h | h
          · exact HDJ.out x h hm
          · have := HQ.out.lt x hm; omega
        have hblk : w5.heap[wr.heap.size]? = some (.cells #[.int .i64 o.kind, .int .u64 o.area, .int .i64 o.n, .slice ao2 o.xs.length cap2] 34 (0, 0)) := (ho5.block wr.heap.size (by omega) (fun hm => by have := HD.out.lt _ hm; omega)).trans (alloc_new _ _)
        have g0 : w5.cell? ⟨wr.heap.size, 0, none⟩ = some (.int .i64 o.kind) := by simp [World.cell?, hblk]
        have g1 : w5.cell? ⟨wr.heap.size, 1, none⟩ = some (.int .u64 o.area) := by simp [World.cell?, hblk]
        have g2 : w5.cell? ⟨wr.heap.size, 2, none⟩ = some (.int .i64 o.n) := by simp [World.cell?, hblk]
        have g3 : w5.cell? ⟨wr.heap.size, 3, none⟩ = some (.slice ao2 o.xs.length cap2) := by simp [World.cell?, hblk]
        clear hd5 ho5 hf5 hblk hs0 d0 d1 d2 d3 e3
        rcases HSt.out with ⟨t1, t2, t3, t4⟩ | ⟨t1, t2, t3⟩
        · have hsb := HD5.out.bounds.2.2.2.1
          have HT1 : Hid ((doD d o).dead = true) := t1
          have HT3 : Hid ((doD d o).steps = at_ + 1) := t3
          have hat : at_ ≤ 1048577 := by omega
          rw [t4]
          clear t1 t3 t4 hsb HSt
          go_wp2_with fail
          refine (Dead_any (k + 1) p (doD d o) fp5 w5 HD5.out).mono ?_
          rintro e w6 ⟨rfl, rfl⟩
          rw [HT1.out]
          go_wp2_with fail
          refine (Steps_any (k + 1) p (doD d o) fp5 _ HD5.out).mono ?_
          rintro e w6 ⟨rfl, rfl⟩
          rw [HT3.out]
          go_wp2_with fail
          go_ret
          exact ⟨rfl, HB5.out⟩
        · have HT1 : Hid ((doD d o).dead = false) := t1
          have HT2 : Hid (doE d o = doE c o) := t2
          have HT3 : Hid (ArmInv at_ (doD d o) (doD c o)) := t3
          clear t1 t2 t3 HSt
          go_wp2_with fail
          refine (Dead_any (k + 1) p (doD d o) fp5 w5 HD5.out).mono ?_
          rintro e w6 ⟨rfl, rfl⟩
          rw [HT1.out]
          go_wp2_with fail
          refine (does_any k q c fq o (.slice ao2 o.xs.length cap2) _ HQ5.out HFit.out (row_x HRow.out HB5.out HG.out) (by omega)).mono ?_
          rintro e w7 ⟨rfl, fq7, hd7, ho7, hf7⟩
          have hs5 := HB5.out.size
          have HQ7 : Hid (DiskAt (k + 1) w7 q (doD c o) fq7) := hd7
          have HD7 : Hid (DiskAt (k + 1) w7 p (doD d o) fp5) := HD5.out.apart ho7 HDJ5.out
          have HB7 : Hid (Below w.heap.size w w7) := HB5.out.trans (ho7.below hs5 HG.out)
          have HG7 : Hid (∀ b ∈ fq7, w.heap.size ≤ b) := fun x hx => (hf7 x hx).elim (HG.out x) (fun h => by omega)
          have HDJ7 : Hid (∀ b ∈ fp5, b ∉ fq7) := fun x hx hm => by
            rcases hf7 x hm with h | h
            · exact HDJ5.out x hx h
            · have := HD5.out.lt x hx; omega
          rw [← HT2.out]
          clear hd7 ho7 hf7 g0 g1 g2 g3
          go_wp2_with fail
          refine (Steps_any (k + 1) p (doD d o) fp5 _ HD7.out).mono ?_
          rintro e w8 ⟨rfl, rfl⟩
          go_wp2_with fail
          refine (Steps_any (k + 1) q (doD c o) fq7 _ HQ7.out).mono ?_
          rintro e w8 ⟨rfl, rfl⟩
          rw [← HT3.out.steps]
          go_wp2_with fail
          go_roundw
          case rel => exact ⟨k + 1, fp5, fq7, _, _, by go_num, by omega, HD7.out, HQ7.out, HDJ7.out, HT3.out, HB7.out, HF5.out, HG7.out⟩
          case measure => simp [intOf]; omega
    · have hle : ¬ (k : Int) < (L.length : Int) := by omega
      have HAH : Hid (0 ≤ at_ → d.steps ≤ at_) := fun h => (HA.out.ah h).2
      by_cases ha0 : at_ < 0
      · go_wp2_with fail
        go_ret
        exact ⟨rfl, HB.out⟩
      · have hsa := HAH.out (by omega)
        go_wp2_with fail
        refine (Steps_any k p d fp _ HD.out).mono ?_
        rintro e w8 ⟨rfl, rfl⟩
        go_wp2_with fail
        go_ret
        exact ⟨by simp, HB.out⟩
end Go.Proofs.Ytlbpjfophgphaaa
