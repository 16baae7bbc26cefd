/- SlotAgain. -/
import Derived.Test.YtpmmpdkeahmdiaaSlAll
import Derived.Test.YtpmmpdkeahmdiaaVals
import Derived.Test.YtpmmpdkeahmdiaaSApart
namespace Go.Proofs.Ytpmmpdkeahmdiaa
open Go.RowKit
set_option maxRecDepth 100000

def Two01 (S : List Sec) : Prop := ∀ s ∈ S, s.n = 0 ∨ s.n = 1
theorem wr_01 {S : List Sec} {a n : Int} {v : List Nat} (h : Two01 S) (hn : n = 0 ∨ n = 1) : Two01 (wr a n v S) := by
  intro s hs
  rcases wr_mem hs with h1 | ⟨_, h2, _⟩
  · exact h s h1
  · rw [h2]; exact hn
theorem sy_01 {S : List Sec} {a : Int} (h : Two01 S) : Two01 (sy a S) := by
  intro s hs
  obtain ⟨t, ht, rfl⟩ := List.mem_map.1 hs
  split
  · exact h t ht
  · exact h t ht
theorem mod2_01 (n : Nat) : (((n % 2 : Nat) : Int) = 0) ∨ (((n % 2 : Nat) : Int) = 1) := by omega
structure AgR (w : World) (s p : Nat) (wr : World) (k n : Nat) (now was : List Nat) (d : DS) (fp : List Nat) (g : Nat) : Prop where
  dk : DiskAt (2 * k) wr p d fp
  dead : d.dead = false
  armed : d.armed = false
  room : d.room = 1073741824
  byt : ByteS d.secs
  z01 : Two01 d.secs
  two : TwoSt d.secs 1 n now was
  sl : SlotAt wr s p 1 n now g
  sf : s ∉ fp
  gf : g ∉ fp
  fpb : ∀ b ∈ fp, w.heap.size ≤ b
  sb : w.heap.size ≤ s
  nk : n ≤ k
  below : Below w.heap.size w wr
theorem AgR.next {w : World} {s p : Nat} {wr w' : World} {k n : Nat} {now was xs : List Nat} {d : DS} {fp fp' : List Nat} {g g' : Nat} (h : AgR w s p wr k n now was d fp g) (hx : ∀ x ∈ xs, x < 256) (hk : k ≤ 1048576) (hsa : SaveAt (2 * k) s p d fp 1 n now xs g wr (saveD d 1 n xs).2 w' fp' g') :
    (xs.length ≤ 48 ∧ (saveD d 1 n xs).2 = 0 ∧ AgR w s p w' (k + 1) (n + 1) xs now (saveD d 1 n xs).1 fp' g') ∨ (48 < xs.length ∧ (saveD d 1 n xs).2 = 40 ∧ AgR w s p w' (k + 1) n now was (saveD d 1 n xs).1 fp' g') := by
  have hbw : Below w.heap.size w w' := h.below.trans (hsa.only.below h.below.size fun b hb => by
    rcases List.mem_cons.1 hb with rfl | hb
    · exact h.sb
    · exact h.fpb b hb)
  have hfb : ∀ b ∈ fp', w.heap.size ≤ b := fun b hb => by
    rcases hsa.sub b hb with h1 | h1
    · exact h.fpb b h1
    · have := h.below.size; omega
  have hnk := h.nk
  have hdk := hsa.disk
  rw [show 2 * k + 2 = 2 * (k + 1) by omega] at hdk
  have hsl := hsa.slot
  by_cases hl : xs.length ≤ 48
  · left
    have hlen := h.dk.bounds.2.2.2.2.1
    have hsv := save_well (d := d) (a := 1) (n := n) (xs := xs) h.dead h.armed (by rw [h.room]; omega) (by omega) hl
    rw [hsv] at hdk hsl ⊢
    have hst : ∀ d : DS, d.dead = false → d.armed = false → (stepD d).dead = false ∧ (stepD d).armed = false ∧ (stepD d).room = d.room := fun d h1 h2 => by simp [stepD, h1, h2]
    obtain ⟨k1, k2, k3⟩ := hst d h.dead h.armed
    obtain ⟨j1, j2, j3⟩ := hst (stepD d) k1 k2
    refine ⟨hl, rfl, hdk, j1, j2, by show (stepD (stepD d)).room = _; rw [j3, k3]; exact h.room, ?_, ?_, ?_, hsl, hsa.sf, hsa.gf, hfb, h.sb, by omega, hbw⟩
    · exact bytes_sy (bytes_wr h.byt (lay_byte hl hx)) 1
    · exact sy_01 (wr_01 h.z01 (mod2_01 _))
    · exact h.two.save (sorted_at h.dk) (by omega) hl hx
  · right
    have e : saveD d 1 n xs = (d, 40) := by unfold saveD; rw [if_pos (.inl (by omega))]
    rw [e] at hdk hsl ⊢
    exact ⟨by omega, rfl, hdk, h.dead, h.armed, h.room, h.byt, h.z01, h.two, hsl, hsa.sf, hsa.gf, hfb, h.sb, by omega, hbw⟩
theorem AgR.then {w : World} {s p : Nat} {wr w' : World} {k n : Nat} {now was : List Nat} {d : DS} {fp : List Nat} {g : Nat} (h : AgR w s p wr k n now was d fp g) (hb : Below wr.heap.size wr w') : AgR w s p w' k n now was d fp g :=
  ⟨h.dk.below hb, h.dead, h.armed, h.room, h.byt, h.z01, h.two, h.sl.below hb, h.sf, h.gf, h.fpb, h.sb, h.nk, h.below.trans (hb.mono h.below.size)⟩
/-- One byte of an array. -/
structure FL (b q c : Nat) (W : World) : Prop where
  cell : W.cell? ⟨b, q, none⟩ = some (bv c)
  fz : W.frozen? ⟨b, q, none⟩ = false
theorem FL.facts {b q c : Nat} {W : World} (h : FL b q c W) : W.cell? ⟨b, q, none⟩ = some (bv c) ∧ W.frozen? ⟨b, q, none⟩ = false := ⟨h.cell, h.fz⟩
/-- Bytes that are told as a string. -/
def CvS (v : Value) (xs : List Nat) (W : World) : Prop := (convert 36 9 v).run Try.prog W = .ok (.string (strB xs)) W
theorem CvS.facts {v : Value} {xs : List Nat} {W : World} (h : CvS v xs W) : (convert 36 9 v).run Try.prog W = .ok (.string (strB xs)) W := h
set_option maxHeartbeats 1000000 in
theorem sagain_walk (v0 : Value) (sec bit : Int) (w : World) (L : List (List Nat)) (hV : Vals w v0 L) (hs1 : -9223372036854775808 ≤ sec) (hs2 : sec ≤ 9223372036854775807) (hb1 : -9223372036854775808 ≤ bit) (hb2 : bit ≤ 9223372036854775807) (hL : L.length ≤ 1048576) :
    Calls Try.prog 7 #[v0, .int .i64 sec, .int .i64 bit] w fun e w' => e = .returned (.bool true) ∧ Below w.heap.size w w' := by
  obtain ⟨ao, cap, rfl, _, _, hcs⟩ := hV
  have HCS : Hid (0 < L.length → ∃ b off, ao = some ⟨b, off, none⟩ ∧ b < w.heap.size ∧ ∀ (i : Nat) (xs : List Nat), L[i]? = some xs → (∀ x ∈ xs, x < 256) ∧ ∃ rv, w.cell? ⟨b, off + i, none⟩ = some rv ∧ Row w.heap.size w rv xs) := hcs
  clear hcs
  go_enter Try.func7, Try.ntmps7
  go_wp2_with fail
  refine (New_any 1073741824 w (by omega) (by omega)).mono ?_
  rintro e w1 ⟨p, fp, rfl, hd1, hn1, hf1⟩
  have HD1 : Hid (DiskAt 0 w1 p (newD 1073741824) fp) := hd1
  have HB1 : Hid (Below w.heap.size w w1) := hn1
  have HF1 : Hid (∀ b ∈ fp, w.heap.size ≤ b) := hf1
  clear hd1 hn1 hf1
  go_wp2_with fail
  refine (alive4_any w1).mono ?_
  rintro e w2 ⟨rfl, hn2⟩
  have HD2 : Hid (DiskAt 0 w2 p (newD 1073741824) fp) := HD1.out.below hn2
  have HB2 : Hid (Below w.heap.size w w2) := HB1.out.trans (hn2.mono HB1.out.size)
  clear hn2
  go_wp2_with fail
  refine (Open_any 0 p (newD 1073741824) fp 1 w2 HD2.out (by omega) (new_bytes _)).mono ?_
  rintro e w3 (⟨hdead, _⟩ | ⟨_, s, g, rfl, hsl, hs, hg, hn3⟩)
  · exact absurd hdead (by simp [newD])
  have H0 : Hid (AgR w s p w3 0 0 [] [] (newD 1073741824) fp g) := by
    have := HB2.out.size
    exact ⟨HD2.out.below hn3, rfl, rfl, rfl, new_bytes _, fun s hs => (by cases hs), TwoSt.new 1, hsl, fun hm => (by have := HD2.out.lt s hm; omega), fun hm => (by have := HD2.out.lt g hm; omega), HF1.out, by omega, Nat.le_refl _, HB2.out.trans (hn3.mono HB2.out.size)⟩
  clear hsl hs hg hn3
  go_wp2_with fail
  go_loopw [10, 11, 34] (fun v10 v11 v34 wr => ∃ (k n : Nat) (now was : List Nat) (d : DS) (fp : List Nat) (g : Nat), v34 = .int .i64 k ∧ k ≤ L.length ∧ v10 = .string (strB was) ∧ v11 = .string (strB now) ∧ AgR w s p wr k n now was d fp g) (fun _ _ v34 _ => L.length - (intOf v34).toNat)
  case atStart => exact ⟨0, 0, [], [], _, fp, g, rfl, Nat.zero_le _, rfl, rfl, H0.out⟩
  case round =>
    clear H0
    obtain ⟨k, n, now, was, d, fp, g, rfl, hk, rfl, rfl, hI⟩ := hrel
    have HI : Hid (AgR w s p wr k n now was d fp g) := hI
    clear hI
    by_cases hlt : k < L.length
    · obtain ⟨b, off, rfl, hbw, hel⟩ := HCS.out (by omega)
      obtain ⟨xs, hxs⟩ : ∃ xs, L[k]? = some xs := ⟨_, List.getElem?_eq_getElem hlt⟩
      obtain ⟨hxb, rv, hc, hrow⟩ := hel k xs hxs
      obtain ⟨ao2, cap2, rfl, _⟩ := hrow.shape
      have HXB : Hid (∀ x ∈ xs, x < 256) := hxb
      have HRow : Hid (Row w.heap.size w (.slice ao2 xs.length cap2) xs) := hrow
      have hc' := (HI.out.below.cell (p := ⟨b, off + k, none⟩) hbw).trans hc
      have hlt' : (k : Int) < (L.length : Int) := by omega
      clear hel hc hrow hxb hxs
      go_wp2_with fail
      have hRX : RowX (s :: fp) wr (.slice ao2 xs.length cap2) xs := row_x4 HRow.out HI.out.below fun b hb => by
        rcases List.mem_cons.1 hb with rfl | hb
        · exact HI.out.sb
        · exact HI.out.fpb b hb
      refine (Save_any (2 * k) s p d fp 1 n now xs g _ wr HI.out.dk HI.out.sl HI.out.sf HI.out.gf hRX HXB.out (by have := HI.out.nk; omega) (by omega)).mono ?_
      rintro e w4 ⟨rfl, fp', g', hsa⟩
      rcases HI.out.next HXB.out (by omega) hsa with ⟨hl, he, hN⟩ | ⟨hl, he, hN⟩
      · rw [he]
        have HN : Hid (AgR w s p w4 (k + 1) (n + 1) xs now (saveD d 1 n xs).1 fp' g') := hN
        have hcv : CvS (.slice ao2 xs.length cap2) xs w4.drew := (HRow.out.below hN.below.drew).str
        clear hsa he hRX hN
        go_wp2_with fail
        refine region_at (S := CvS (.slice ao2 xs.length cap2) xs) 5 rfl (by kernel_rfl) hcv (fun hHeld => ?_)
        refine take_at (i := 0) 42 rfl rfl (by kernel_rfl) (by kernel_rfl) (by kernel_rfl) (fun _ _ _ h => h) (by rfl) (fun w hSw => by (have hSw2 := CvS.facts hSw; clear hSw; go_simp; first | done | exact rfl)) (by assumption) ?_
        simp only [List.setIfInBounds_toArray, List.set_cons_zero, List.set_cons_succ]
        refine take_at (i := 1) 43 rfl rfl (by kernel_rfl) (by kernel_rfl) (by kernel_rfl) (fun _ _ _ h => h) (by rfl) (fun w hSw => by (have hSw2 := CvS.facts hSw; clear hSw; go_simp; first | done | exact rfl)) (by assumption) ?_
        simp only [List.setIfInBounds_toArray, List.set_cons_zero, List.set_cons_succ]
        refine take_at (i := 2) 44 rfl rfl (by kernel_rfl) (by kernel_rfl) (by kernel_rfl) (fun _ _ _ h => h) (by rfl) (fun w hSw => by (have hSw2 := CvS.facts hSw; clear hSw; go_simp; first | done | exact rfl)) (by assumption) ?_
        simp only [List.setIfInBounds_toArray, List.set_cons_zero, List.set_cons_succ]
        refine take_at (i := 3) 10 rfl rfl (by kernel_rfl) (by kernel_rfl) (by kernel_rfl) (fun _ _ _ h => h) (by rfl) (fun w hSw => by (clear hSw; go_simp; first | done | exact rfl)) (by assumption) ?_
        simp only [List.setIfInBounds_toArray, List.set_cons_zero, List.set_cons_succ]
        refine take_at (i := 4) 11 rfl rfl (by kernel_rfl) (by kernel_rfl) (by kernel_rfl) (fun _ _ _ h => h) (by rfl) (fun w hSw => by (clear hSw; go_simp; first | done | exact rfl)) (by assumption) ?_
        simp only [List.setIfInBounds_toArray, List.set_cons_zero, List.set_cons_succ]
        refine wpAnyH_done (by kernel_rfl) ?_ _
        have HND : Hid (AgR w s p w4.drew (k + 1) (n + 1) xs now (saveD d 1 n xs).1 fp' g') := HN.out.then (Below.refl _ w4).drew
        clear hHeld hcv HN
        go_wp2_with fail
        go_roundw
        case rel => exact ⟨k + 1, n + 1, xs, now, _, fp', g', by go_num, by omega, rfl, rfl, HND.out⟩
        case measure => simp [intOf]; omega
      · rw [he]
        have HN : Hid (AgR w s p w4 (k + 1) n now was (saveD d 1 n xs).1 fp' g') := hN
        clear hsa he hRX hN
        go_wp2_with fail
        go_roundw
        case rel => exact ⟨k + 1, n, now, was, _, fp', g', by go_num, by omega, rfl, rfl, HN.out⟩
        case measure => simp [intOf]; omega
    · have hxn : ¬ ((k : Int) < (L.length : Int)) := by omega
      go_wp2_with fail
      refine (Open_any (2 * k) p d fp 1 wr HI.out.dk (by omega) HI.out.byt).mono ?_
      rintro e w4 (⟨hdead, _⟩ | ⟨_, t, g4, rfl, hsl4, _, _, hn4⟩)
      · exact absurd hdead (by rw [HI.out.dead]; simp)
      rw [HI.out.two.open] at hsl4
      have HN4 : Hid (AgR w s p w4 k n now was d fp g) := HI.out.then hn4
      have HT4 : Hid (SlotAt w4 t p 1 n now g4) := hsl4
      clear hsl4 hn4
      go_wp2_with fail
      refine (Value_any w4 t p 1 n now g4 HT4.out (by have := HN4.out.two.l1; omega)).mono ?_
      rintro e w5 ⟨⟨v5, rfl, hrow5⟩, hn5⟩
      have hcv5 := hrow5.str
      have HN5 : Hid (AgR w s p w5 k n now was d fp g) := HN4.out.then hn5
      have HT5 : Hid (SlotAt w5 t p 1 n now g4) := HT4.out.below hn5
      clear hrow5 hn5 HN4 HT4
      go_wp2_with fail
      refine (Number_any w5 t p 1 n now g4 HT5.out).mono ?_
      rintro e w6 ⟨rfl, rfl⟩
      clear hcv5
      go_wp2_with fail
      refine (Number_any w6 s p 1 n now g HN5.out.sl).mono ?_
      rintro e w7 ⟨rfl, rfl⟩
      go_wp2_with fail
      refine (Read_any (2 * k) p d fp 1 sec w7 HN5.out.dk (by omega)).mono ?_
      rintro e w8 ⟨hn8, hc8⟩
      have HN8 : Hid (AgR w s p w8 k n now was d fp g) := HN5.out.then hn8
      have HW7 : Hid (w.heap.size ≤ w7.heap.size) := HN5.out.below.size
      have HIN7 : Hid (∀ b ∈ fp, b < w7.heap.size) := HN5.out.dk.lt
      have HSL7 : Hid (s < w7.heap.size ∧ g < w7.heap.size) := HN5.out.sl.lt
      clear HN5 HT5
      rcases hc8 with ⟨_, rfl⟩ | ⟨v, b, hcur, hv64, rfl, hbge, hblk⟩
      · clear hn8
        go_wp2_with fail
        go_ret
        exact ⟨rfl, HN8.out.below⟩
      · by_cases hbit : bit < 0
        · clear hn8 hblk
          go_wp2_with fail
          go_ret
          exact ⟨rfl, HN8.out.below⟩
        · by_cases hbit2 : 512 ≤ bit
          · clear hn8 hblk
            go_wp2_with fail
            go_ret
            exact ⟨rfl, HN8.out.below⟩
          · obtain ⟨j, hj, hjs⟩ : ∃ j : Nat, j < 2 ∧ (j : Int) = sec := by
              unfold curOf at hcur
              cases hf : findS 1 sec d.secs with
              | none => rw [hf] at hcur; cases hcur
              | some t =>
                have h1 := HN8.out.z01 t (findS_mem hf)
                rw [(findS_at hf).2] at h1
                rcases h1 with h1 | h1
                · exact ⟨0, by omega, by omega⟩
                · exact ⟨1, by omega, by omega⟩
            subst hjs
            obtain ⟨t, rfl⟩ : ∃ t : Nat, bit = (t : Int) := ⟨bit.toNat, by omega⟩
            have ht : t < 512 := by omega
            have A8 : ArrAt 87 w8.drew b v := hblk
            have hvb : ∀ x ∈ v, x < 256 := HN8.out.byt.cur hcur
            obtain ⟨q, hq⟩ : ∃ q, t / 8 = q := ⟨_, rfl⟩
            obtain ⟨r, hr⟩ : ∃ r, t % 8 = r := ⟨_, rfl⟩
            obtain ⟨c, hc⟩ : ∃ c, v.getD q 0 = c := ⟨_, rfl⟩
            obtain ⟨x, hx⟩ : ∃ x, 2 ^ r = x := ⟨_, rfl⟩
            have hr8 : r < 8 := by omega
            have hx256 : x < 256 := by rw [← hx]; exact Nat.lt_of_lt_of_le (Nat.pow_lt_pow_right (by decide) hr8) (by decide)
            have hc256 : c < 256 := by
              rw [← hc, List.getD_eq_getElem?_getD, List.getElem?_eq_getElem (by omega)]
              exact hvb _ (List.getElem_mem _)
            have HF8 : Hid (FL b q c w8.drew) := ⟨by rw [A8.cell (by omega), hc], A8.frozen q⟩
            have i1 : Int.tdiv (t : Int) 8 = (q : Int) := by rw [Int.tdiv_eq_ediv_of_nonneg (by omega)]; omega
            have i2 : Int.tmod (t : Int) 8 = (r : Int) := by rw [Int.tmod_eq_emod_of_nonneg (by omega)]; omega
            have i3 : IntKind.i64.wrap (q : Int) = (q : Int) := by simp [IntKind.wrap, IntKind.bits, IntKind.signed]; omega
            have i4 : IntKind.i64.wrap (r : Int) = (r : Int) := by simp [IntKind.wrap, IntKind.bits, IntKind.signed]; omega
            have i5 : (0 : Int) ≤ (q : Int) := by omega
            have i6 : (q : Int) < 64 := by omega
            have i7 : (0 : Int) ≤ (r : Int) := by omega
            have i8 : (r : Int) < 8 := by omega
            have hxi : (2 : Int) ^ r = (x : Int) := by rw [← hx]; exact (Int.natCast_pow 2 r).symm
            have i9 : IntKind.u8.wrap (x : Int) = (x : Int) := by simp [IntKind.wrap, IntKind.bits, IntKind.signed]; omega
            have i10 : bits .xor .u8 (c : Int) (x : Int) = ((c ^^^ x : Nat) : Int) := u8_xor_nat c x hc256 hx256
            go_wp2_with fail
            refine region_at (S := fun _ => True) 11 rfl (by kernel_rfl) trivial (fun hHeld => ?_)
            refine take_at (i := 0) 83 rfl rfl (by kernel_rfl) (by kernel_rfl) (by kernel_rfl) (fun _ _ _ h => h) (by rfl) (fun w hSw => by (have hSw2 := triv_in hSw; clear hSw; go_simp; first | done | exact rfl)) (by assumption) ?_
            simp only [List.setIfInBounds_toArray, List.set_cons_zero, List.set_cons_succ]
            refine take_at (i := 1) 84 rfl rfl (by kernel_rfl) (by kernel_rfl) (by kernel_rfl) (fun _ _ _ h => h) (by rfl) (fun w hSw => by (have hSw2 := triv_in hSw; clear hSw; go_simp; first | done | exact rfl)) (by assumption) ?_
            simp only [List.setIfInBounds_toArray, List.set_cons_zero, List.set_cons_succ]
            refine take_at (i := 2) 85 rfl rfl (by kernel_rfl) (by kernel_rfl) (by kernel_rfl) (fun _ _ _ h => h) (by rfl) (fun w hSw => by (have hSw2 := triv_in hSw; clear hSw; go_simp; first | done | exact rfl)) (by assumption) ?_
            simp only [List.setIfInBounds_toArray, List.set_cons_zero, List.set_cons_succ]
            refine take_at (i := 3) 86 rfl rfl (by kernel_rfl) (by kernel_rfl) (by kernel_rfl) (fun _ _ _ h => h) (by rfl) (fun w hSw => by (have hSw2 := triv_in hSw; clear hSw; go_simp; first | done | exact rfl)) (by assumption) ?_
            simp only [List.setIfInBounds_toArray, List.set_cons_zero, List.set_cons_succ]
            refine take_at (i := 5) 88 rfl rfl (by kernel_rfl) (by kernel_rfl) (by kernel_rfl) (fun _ _ _ h => h) (by rfl) (fun w hSw => by (have hSw2 := triv_in hSw; clear hSw; go_simp; first | done | exact rfl)) (by assumption) ?_
            simp only [List.setIfInBounds_toArray, List.set_cons_zero, List.set_cons_succ]
            refine take_at (i := 6) 89 rfl rfl (by kernel_rfl) (by kernel_rfl) (by kernel_rfl) (fun _ _ _ h => h) (by rfl) (fun w hSw => by (have hSw2 := triv_in hSw; clear hSw; go_simp; first | done | exact rfl)) (by assumption) ?_
            simp only [List.setIfInBounds_toArray, List.set_cons_zero, List.set_cons_succ]
            refine take_at (i := 7) 90 rfl rfl (by kernel_rfl) (by kernel_rfl) (by kernel_rfl) (fun _ _ _ h => h) (by rfl) (fun w hSw => by (have hSw2 := triv_in hSw; clear hSw; go_simp; first | done | exact rfl)) (by assumption) ?_
            simp only [List.setIfInBounds_toArray, List.set_cons_zero, List.set_cons_succ]
            obtain ⟨f1, f2⟩ := HF8.out.facts
            refine one_value (i := 4) (v := bv c) (w' := w8.drew) 87 (by kernel_rfl) rfl rfl (by rfl) (by go_simp; first | done | exact rfl) trivial (fun _ => ?_)
            simp only [List.setIfInBounds_toArray, List.set_cons_zero, List.set_cons_succ]
            refine take_at (i := 8) 91 rfl rfl (by kernel_rfl) (by kernel_rfl) (by kernel_rfl) (fun _ _ _ h => h) (by rfl) (fun w hSw => by (have hSw2 := triv_in hSw; clear hSw; go_simp; first | done | exact rfl)) (by assumption) ?_
            simp only [List.setIfInBounds_toArray, List.set_cons_zero, List.set_cons_succ]
            refine take_at (i := 9) 92 rfl rfl (by kernel_rfl) (by kernel_rfl) (by kernel_rfl) (fun _ _ _ h => h) (by rfl) (fun w hSw => by (have hSw2 := triv_in hSw; clear hSw; go_simp; first | done | exact rfl)) (by assumption) ?_
            simp only [List.setIfInBounds_toArray, List.set_cons_zero, List.set_cons_succ]
            refine one_skip (i := 10) (w' := w8.drew.setCell ⟨b, q, none⟩ (bv (c ^^^ x))) (by kernel_rfl) rfl rfl (by rfl) (by go_simp; first | done | exact rfl) trivial (fun _ => ?_)
            refine wpAnyH_done (by kernel_rfl) ?_ _
            have hb8 : b < w8.heap.size := A8.lt
            have A9 : ArrAt 87 (w8.drew.setCell ⟨b, q, none⟩ (bv (c ^^^ x))) b (flipB v t) := by
              have h := set_arr (k := q) (x := c ^^^ x) A8
              have e : v.set q (c ^^^ x) = flipB v t := by rw [flipB, hq, hr, hc, hx]
              rwa [e] at h
            have hbw8 : w.heap.size ≤ b := by
              have h1 := HW7.out
              omega
            have hbf : b ∉ fp := fun hm => by
              have := HIN7.out b hm
              omega
            have N9 : AgR w s p (w8.drew.setCell ⟨b, q, none⟩ (bv (c ^^^ x))) k n now was d fp g := by
              have o9 := one_setCell w8.drew b q (bv (c ^^^ x))
              have h0 := HN8.out.then (Below.refl _ w8).drew
              have hl9 := HSL7.out
              refine ⟨h0.dk.same fun y hy => o9.block y (fun e => hbf (e ▸ hy)), h0.dead, h0.armed, h0.room, h0.byt, h0.z01, h0.two, h0.sl.same (Nat.le_of_eq o9.size.symm) (o9.block s (by omega)) (o9.block g (by omega)), h0.sf, h0.gf, h0.fpb, h0.sb, h0.nk, h0.below.setCell (by show w.heap.size ≤ b; exact hbw8) _⟩
            obtain ⟨w9, hw9⟩ : ∃ w9, w8.drew.setCell ⟨b, q, none⟩ (bv (c ^^^ x)) = w9 := ⟨_, rfl⟩
            rw [hw9] at A9 N9
            rw [hw9]
            have N9H : Hid (AgR w s p w9 k n now was d fp g) := N9
            have A9H : Hid (ArrAt 87 w9 b (flipB v t)) := A9
            have HBF : Hid (b ∉ fp) := hbf
            have HCU : Hid (curOf d.secs 1 (j : Int) = some v) := hcur
            have HVB : Hid (∀ x ∈ v, x < 256) := hvb
            clear hHeld f1 f2 A9 N9 hw9 hbf hblk A8 hq hr hc hx i1 i2 i3 i4 i5 i6 i7 i8 hxi i9 i10 hn8 hvb hcur HF8
            go_wp2_with fail
            have hfl : (flipB v t).length = 64 := by rw [flip_len]; exact hv64
            have hrow9 : RowX fp w9 (.slice (some ⟨b, 0, none⟩) 64 64) (flipB v t) := by
              refine ⟨?_, fun b' off len cap e _ hm => ?_⟩
              · have h := A9H.out.row 0 64 64 (by omega) (by omega) A9H.out.lt
                rwa [List.drop_zero, List.take_of_length_le (by omega)] at h
              · simp only [Value.slice.injEq, Option.some.injEq, Addr.mk.injEq] at e
                exact HBF.out (e.1.1 ▸ hm)
            refine (Write_any (2 * k) p d fp 1 (j : Int) _ (flipB v t) w9 N9H.out.dk hrow9 (by omega) (by omega)).mono ?_
            rintro e w10 ⟨rfl, fp2, hd10, ho10, hf10⟩
            have hfm : ¬ formBad (j : Int) (flipB v t) := by unfold formBad; omega
            have hfu : ¬ fullBad d 1 (j : Int) := by
              rintro ⟨h1, _⟩
              have h2 := HCU.out
              unfold curOf at h2
              cases hf : findS 1 (j : Int) d.secs with
              | none => rw [hf] at h2; cases h2
              | some t => rw [hf] at h1; cases h1
            have he : wrE d 1 (j : Int) (flipB v t) = 0 := by
              unfold wrE
              rw [N9H.out.dead, if_neg (by simp), if_neg hfm, if_neg hfu]
              simp [stepE, N9H.out.dead, N9H.out.armed]
            have hdd : wrD d 1 (j : Int) (flipB v t) = { stepD d with secs := Go.Proofs.Ytpmmpdkeahmdiaa.wr 1 (j : Int) (flipB v t) d.secs } := by
              unfold wrD
              rw [N9H.out.dead, if_neg (by simp), if_neg hfm, if_neg hfu, pad_64 hfl]
            rw [he]
            rw [hdd] at hd10
            have HD10 : Hid (DiskAt (2 * k + 1) w10 p { stepD d with secs := Go.Proofs.Ytpmmpdkeahmdiaa.wr 1 (j : Int) (flipB v t) d.secs } fp2) := hd10
            have HB10 : Hid (Below w.heap.size w w10) := N9H.out.below.trans (ho10.below N9H.out.below.size N9H.out.fpb)
            have HDE : Hid ((stepD d).dead = false) := by show _ = _; simp [stepD, N9H.out.dead, N9H.out.armed]
            have HBY : Hid (ByteS (Go.Proofs.Ytpmmpdkeahmdiaa.wr 1 (j : Int) (flipB v t) d.secs)) := bytes_wr N9H.out.byt (flip_byte hv64 HVB.out ht)
            have HFL : Hid ((openS (Go.Proofs.Ytpmmpdkeahmdiaa.wr 1 (j : Int) (flipB v t) d.secs) 1).2 = now ∨ (openS (Go.Proofs.Ytpmmpdkeahmdiaa.wr 1 (j : Int) (flipB v t) d.secs) 1).2 = was) := N9H.out.two.flip (sorted_at N9H.out.dk) hj HCU.out ht
            clear hrow9 hd10 ho10 hf10 hfm hfu he hdd
            go_wp2_with fail
            refine (Open_any (2 * k + 1) p _ fp2 1 w10 HD10.out (by omega) HBY.out).mono ?_
            rintro e w11 (⟨hdead, _⟩ | ⟨_, u, g5, rfl, hsl11, _, _, hn11⟩)
            · exact absurd hdead (by rw [HDE.out]; simp)
            have HB11 : Hid (Below w.heap.size w w11) := HB10.out.trans (hn11.mono HB10.out.size)
            obtain ⟨nn, hnn⟩ : ∃ nn, (openS (Go.Proofs.Ytpmmpdkeahmdiaa.wr 1 (j : Int) (flipB v t) d.secs) 1).1 = nn := ⟨_, rfl⟩
            obtain ⟨val, hval⟩ : ∃ val, (openS (Go.Proofs.Ytpmmpdkeahmdiaa.wr 1 (j : Int) (flipB v t) d.secs) 1).2 = val := ⟨_, rfl⟩
            have hsl12 : SlotAt w11 u p 1 nn val g5 := by rw [← hnn, ← hval]; exact hsl11
            have hwh := HFL.out
            rw [hval] at hwh
            have HU : Hid (SlotAt w11 u p 1 nn val g5) := hsl12
            have hl48 : val.length ≤ 48 := by rcases hwh with h | h; rw [h]; exact N9H.out.two.l1; rw [h]; exact N9H.out.two.l2
            clear hsl11 hsl12 hnn hval hn11
            go_wp2_with fail
            refine (Value_any w11 u p 1 nn val g5 HU.out (by omega)).mono ?_
            rintro e w12 ⟨⟨v12, rfl, hrow12⟩, hn12⟩
            have hcv12 := hrow12.str
            have HB12 : Hid (Below w.heap.size w w12) := HB11.out.trans (hn12.mono HB11.out.size)
            have HU12 : Hid (SlotAt w12 u p 1 nn val g5) := HU.out.below hn12
            clear hrow12 hn12
            cases hq : ((strB val).toList == (strB now).toList) with
            | true =>
              go_wp2_with fail
              go_ret
              exact ⟨rfl, HB12.out⟩
            | false =>
              have hvw : val = was := by
                rcases hwh with h | h
                · rw [h] at hq; simp at hq
                · exact h
              subst hvw
              go_wp2_with fail
              refine (Value_any w12 u p 1 nn val g5 HU12.out (by omega)).mono ?_
              rintro e w13 ⟨⟨v13, rfl, hrow13⟩, hn13⟩
              have hcv13 := hrow13.str
              have HB13 : Hid (Below w.heap.size w w13) := HB12.out.trans (hn13.mono HB12.out.size)
              clear hrow13 hn13 hcv12
              go_wp2_with fail
              go_ret
              exact ⟨rfl, HB13.out⟩
end Go.Proofs.Ytpmmpdkeahmdiaa
