/- SlotCrash. -/
import Derived.Test.YtpmmpdkeahmdiaaSlotC
namespace Go.Proofs.Ytpmmpdkeahmdiaa
open Go.RowKit
set_option maxRecDepth 100000

/-- A disk whose slot has a value that lasts. -/
structure OuC (w : World) (N : Nat) (wr : World) (p : Nat) (d : DS) (fp : List Nat) (n : Nat) (now : List Nat) : Prop where
  dk : DiskAt N wr p d fp
  dead : d.dead = false
  room : d.room = 1073741824
  byt : ByteS d.secs
  sy : AllSy d.secs
  opn : openS d.secs 1 = (n, now)
  l48 : now.length ≤ 48
  nN : n ≤ N
  fpb : ∀ b ∈ fp, w.heap.size ≤ b
  below : Below w.heap.size w wr
theorem OuC.then {w : World} {N : Nat} {wr w' : World} {p : Nat} {d : DS} {fp : List Nat} {n : Nat} {now : List Nat} (h : OuC w N wr p d fp n now) (hb : Below wr.heap.size wr w') : OuC w N w' p d fp n now :=
  ⟨h.dk.below hb, h.dead, h.room, h.byt, h.sy, h.opn, h.l48, h.nN, h.fpb, h.below.trans (hb.mono h.below.size)⟩
/-- The same, with a slot that was opened. -/
structure InC (w : World) (N : Nat) (wr : World) (s p : Nat) (d : DS) (fp : List Nat) (n : Nat) (now : List Nat) (g : Nat) : Prop where
  o : OuC w N wr p d fp n now
  sl : SlotAt wr s p 1 n now g
  sf : s ∉ fp
  gf : g ∉ fp
  sb : w.heap.size ≤ s
theorem InC.then {w : World} {N : Nat} {wr w' : World} {s p : Nat} {d : DS} {fp : List Nat} {n : Nat} {now : List Nat} {g : Nat} (h : InC w N wr s p d fp n now g) (hb : Below wr.heap.size wr w') : InC w N w' s p d fp n now g :=
  ⟨h.o.then hb, h.sl.below hb, h.sf, h.gf, h.sb⟩
/-- What may be found of it. -/
structure FiC (w : World) (N : Nat) (wr : World) (p : Nat) (d : DS) (fp : List Nat) (now cut : List Nat) : Prop where
  dk : DiskAt N wr p d fp
  room : d.room = 1073741824
  byt : ByteS d.secs
  fnd : ∀ ps, ∃ m, m ≤ N ∧ (openS (crashS ps d.secs) 1 = (m, now) ∨ openS (crashS ps d.secs) 1 = (m, cut))
  l1 : now.length ≤ 48
  l2 : cut.length ≤ 48
  fpb : ∀ b ∈ fp, w.heap.size ≤ b
  below : Below w.heap.size w wr
theorem OuC.fin {w : World} {N : Nat} {wr : World} {p : Nat} {d : DS} {fp : List Nat} {n : Nat} {now : List Nat} (h : OuC w N wr p d fp n now) : FiC w N wr p d fp now now :=
  ⟨h.dk, h.room, h.byt, fun ps => ⟨n, h.nN, .inl (by rw [crash_same h.sy]; exact h.opn)⟩, h.l48, h.l48, h.fpb, h.below⟩
/-- What a Save makes of it. -/
theorem InC.save {w : World} {N : Nat} {wr w' : World} {s p : Nat} {d : DS} {fp fp' : List Nat} {n : Nat} {now xs : List Nat} {g g' : Nat} (h : InC w N wr s p d fp n now g) (hx : ∀ x ∈ xs, x < 256) (hN : N ≤ 16777216) (hsa : SaveAt N s p d fp 1 n now xs g wr (saveD d 1 n xs).2 w' fp' g') :
    (xs.length ≤ 48 ∧ (saveD d 1 n xs).2 = 0 ∧ InC w (N + 2) w' s p (saveD d 1 n xs).1 fp' (n + 1) xs g') ∨
    (xs.length ≤ 48 ∧ (saveD d 1 n xs).2 = 30 ∧ (saveD d 1 n xs).1.dead = true ∧ FiC w (N + 2) w' p (saveD d 1 n xs).1 fp' now xs) ∨
    (48 < xs.length ∧ (saveD d 1 n xs).2 = 40 ∧ (saveD d 1 n xs).1.dead = false ∧ InC w (N + 2) w' s p (saveD d 1 n xs).1 fp' n now g') := by
  have hbw : Below w.heap.size w w' := h.o.below.trans (hsa.only.below h.o.below.size fun b hb => by
    rcases List.mem_cons.1 hb with rfl | hb
    · exact h.sb
    · exact h.o.fpb b hb)
  have hfb : ∀ b ∈ fp', w.heap.size ≤ b := fun b hb => by
    rcases hsa.sub b hb with h1 | h1
    · exact h.o.fpb b h1
    · have := h.o.below.size; omega
  have hdk := hsa.disk
  have hsl := hsa.slot
  have hnN := h.o.nN
  by_cases hl : xs.length ≤ 48
  · have hlen := h.o.dk.bounds.2.2.2.2.1
    have hso := sorted_at h.o.dk
    rcases save_cases (d := d) (n := n) (xs := xs) h.o.dead (by rw [h.o.room]; omega) (by omega) hl with ⟨d', e, k1, k2, k3⟩ | ⟨d', e, k1, k2, k3⟩
    · left
      rw [e] at hdk hsl ⊢
      refine ⟨hl, rfl, ⟨hdk, k1, by rw [k2]; exact h.o.room, ?_, ?_, ?_, hl, by omega, hfb, hbw⟩, hsl, hsa.sf, hsa.gf, h.sb⟩
      · show ByteS d'.secs
        rw [k3]; exact bytes_sy (bytes_wr h.o.byt (lay_byte hl hx)) 1
      · show AllSy d'.secs
        rw [k3]; exact sy_all h.o.sy 1 _ _
      · show openS d'.secs 1 = _
        rw [k3]; exact open_saved hso (by rw [h.o.opn]) (by omega) hl
    · right; left
      rw [e] at hdk ⊢
      refine ⟨hl, rfl, k1, hdk, by rw [k2]; exact h.o.room, ?_, fun ps => ?_, h.o.l48, hl, hfb, hbw⟩
      · show ByteS d'.secs
        rw [k3]; exact bytes_wr h.o.byt (lay_byte hl hx)
      · show ∃ m, m ≤ N + 2 ∧ (openS (crashS ps d'.secs) 1 = (m, now) ∨ openS (crashS ps d'.secs) 1 = (m, xs))
        rw [k3]
        rcases cut_found h.o.sy hso h.o.opn (by omega) hl ps with hc | hc
        · exact ⟨n, by omega, .inl hc⟩
        · exact ⟨n + 1, by omega, .inr hc⟩
  · right; right
    have e : saveD d 1 n xs = (d, 40) := by unfold saveD; rw [if_pos (.inl (by omega))]
    rw [e] at hdk hsl ⊢
    exact ⟨by omega, rfl, h.o.dead, ⟨hdk, h.o.dead, h.o.room, h.o.byt, h.o.sy, h.o.opn, h.o.l48, by omega, hfb, hbw⟩, hsl, hsa.sf, hsa.gf, h.sb⟩
set_option maxHeartbeats 1000000 in
theorem scrash_walk (v0 : Value) (at_ : Int) (v2 : Value) (w : World) (L : List (List Nat)) (hV : Vals w v0 L) (ha1 : -9223372036854775808 ≤ at_) (ha2 : at_ ≤ 9223372036854775807) (ps : List Int) (hP : IntsAt w v2 ps) (hL : L.length ≤ 1048576) :
    Calls Try.prog 8 #[v0, .int .i64 at_, v2] w fun e w' => e = .returned (.bool true) ∧ Below w.heap.size w w' := by
  obtain ⟨ao, cap, rfl, _, _, hcs⟩ := hV
  have HCS : Hid (0 < L.length → ∃ b off, ao = some ⟨b, off, none⟩ ∧ b < w.heap.size ∧ ∀ (i : Nat) (xs : List Nat), L[i]? = some xs → (∀ x ∈ xs, x < 256) ∧ ∃ rv, w.cell? ⟨b, off + i, none⟩ = some rv ∧ Row w.heap.size w rv xs) := hcs
  have HP : Hid (IntsAt w v2 ps) := hP
  clear hcs hP
  go_enter Try.func8, Try.ntmps8
  go_wp2_with fail
  refine (New_any 1073741824 w (by omega) (by omega)).mono ?_
  rintro e w1 ⟨p, fp, rfl, hd1, hn1, hf1⟩
  have HD1 : Hid (DiskAt 0 w1 p (newD 1073741824) fp) := hd1
  have HB1 : Hid (Below w.heap.size w w1) := hn1
  have HF1 : Hid (∀ b ∈ fp, w.heap.size ≤ b) := hf1
  clear hd1 hn1 hf1
  go_wp2_with fail
  refine (alive4_any w1).mono ?_
  rintro e w2 ⟨rfl, hn2⟩
  have H0 : Hid (OuC w 0 w2 p (newD 1073741824) fp 0 []) := ⟨HD1.out.below hn2, rfl, rfl, new_bytes _, fun s hs => (by cases hs), rfl, by simp, Nat.le_refl _, HF1.out, HB1.out.trans (hn2.mono HB1.out.size)⟩
  clear hn2 HD1 HB1 HF1
  go_wp2_with fail
  go_loopw [7, 8, 23] (fun v7 v8 v23 wr => ∃ (i N0 p : Nat) (d : DS) (fp : List Nat) (n : Nat) (now : List Nat), v23 = .int .i64 i ∧ i ≤ 2 ∧ N0 ≤ i * 2097154 ∧ v7 = .pointer (some ⟨p, 0, none⟩) ∧ v8 = .string (strB now) ∧ OuC w N0 wr p d fp n now) (fun _ _ v23 _ => 2 - (intOf v23).toNat)
  case atStart => exact ⟨0, 0, p, _, fp, 0, [], rfl, by omega, by omega, rfl, rfl, H0.out⟩
  case round =>
    clear H0
    obtain ⟨i, N0, p, d, fp, n, now, rfl, hi, hN0, rfl, rfl, hO⟩ := hrel
    have HO : Hid (OuC w N0 wr p d fp n now) := hO
    clear hO
    by_cases hi2 : i < 2
    · go_wp2_with fail
      refine (Open_any N0 p d fp 1 wr HO.out.dk (by omega) HO.out.byt).mono ?_
      rintro e w3 (⟨hdead, _⟩ | ⟨_, s, g, rfl, hsl, hs, hg, hn3⟩)
      · exact absurd hdead (by rw [HO.out.dead]; simp)
      rw [HO.out.opn] at hsl
      have HI3 : Hid (InC w N0 w3 s p d fp n now g) := by
        have h1 := HO.out.below.size
        exact ⟨HO.out.then hn3, hsl, fun hm => (by have := HO.out.dk.lt s hm; omega), fun hm => (by have := HO.out.dk.lt g hm; omega), by omega⟩
      clear hsl hs hg hn3 HO
      go_wp2_with fail
      refine (Value_any w3 s p 1 n now g HI3.out.sl (by have := HI3.out.o.l48; omega)).mono ?_
      rintro e w4 ⟨⟨v4, rfl, hrow4⟩, hn4⟩
      have hcv4 := hrow4.str
      have HI4 : Hid (InC w N0 w4 s p d fp n now g) := HI3.out.then hn4
      clear hrow4 hn4 HI3
      go_wp2_with fail
      refine (Arm_any N0 p d fp at_ w4 HI4.out.o.dk ha1 ha2).mono ?_
      rintro e w5 ⟨rfl, hd5, ho5⟩
      rw [if_neg (show ¬ d.dead = true by rw [HI4.out.o.dead]; simp)] at hd5
      have HI5 : Hid (InC w (N0 + 2 * 0) w5 s p { d with armed := decide (0 ≤ at_), ahead := at_ } fp n now g) := by
        have h := HI4.out
        exact ⟨⟨hd5, h.o.dead, h.o.room, h.o.byt, h.o.sy, h.o.opn, h.o.l48, h.o.nN, h.o.fpb, h.o.below.trans (ho5.below h.o.below.size h.o.fpb)⟩, h.sl.only ho5 h.sf h.gf, h.sf, h.gf, h.sb⟩
      clear hd5 ho5 hcv4 HI4
      go_wp2_with fail
      go_loopw [8, 11, 45] (fun v8 v11 v45 wr => ∃ (k : Nat) (d : DS) (fp : List Nat) (n : Nat) (now : List Nat) (g : Nat), v45 = .int .i64 k ∧ k ≤ L.length ∧ v8 = .string (strB now) ∧ v11 = .string (strB now) ∧ InC w (N0 + 2 * k) wr s p d fp n now g) (fun _ _ v45 _ => L.length - (intOf v45).toNat)
      case atStart => exact ⟨0, _, fp, n, now, g, rfl, Nat.zero_le _, rfl, rfl, HI5.out⟩
      case round =>
        clear HI5
        obtain ⟨k, d, fp, n, now, g, rfl, hk, rfl, rfl, hI⟩ := hrel
        have HI : Hid (InC w (N0 + 2 * k) wr s p d fp n now g) := hI
        clear hI
        by_cases hlt : k < L.length
        · obtain ⟨b, off, rfl, hbw, hel⟩ := HCS.out (by omega)
          obtain ⟨xs, hxs⟩ : ∃ xs, L[k]? = some xs := ⟨_, List.getElem?_eq_getElem hlt⟩
          obtain ⟨hxb, rv, hc, hrow⟩ := hel k xs hxs
          obtain ⟨ao2, cap2, rfl, _⟩ := hrow.shape
          have HXB : Hid (∀ x ∈ xs, x < 256) := hxb
          have HRow : Hid (Row w.heap.size w (.slice ao2 xs.length cap2) xs) := hrow
          have hc' := (HI.out.o.below.cell (p := ⟨b, off + k, none⟩) hbw).trans hc
          have hlt' : (k : Int) < (L.length : Int) := by omega
          clear hel hc hrow hxb hxs
          go_wp2_with fail
          have hRX : RowX (s :: fp) wr (.slice ao2 xs.length cap2) xs := row_x4 HRow.out HI.out.o.below fun b hb => by
            rcases List.mem_cons.1 hb with rfl | hb
            · exact HI.out.sb
            · exact HI.out.o.fpb b hb
          refine (Save_any (N0 + 2 * k) s p d fp 1 n now xs g _ wr HI.out.o.dk HI.out.sl HI.out.sf HI.out.gf hRX HXB.out (by have := HI.out.o.nN; omega) (by omega)).mono ?_
          rintro e w12 ⟨rfl, fp', g', hsa⟩
          rcases HI.out.save HXB.out (by omega) hsa with ⟨hl, he, hN⟩ | ⟨hl, he, hde, hF⟩ | ⟨hl, he, hde, hN⟩
          · rw [he]
            have HN : Hid (InC w (N0 + 2 * k + 2) w12 s p (saveD d 1 n xs).1 fp' (n + 1) xs g') := hN
            have hcv : CvS (.slice ao2 xs.length cap2) xs w12.drew := (HRow.out.below hN.o.below.drew).str
            clear hsa he hRX hN
            go_wp2_with fail
            refine region_at (S := CvS (.slice ao2 xs.length cap2) xs) 6 rfl (by kernel_rfl) hcv (fun hHeld => ?_)
            refine take_at (i := 0) 53 rfl rfl (by kernel_rfl) (by kernel_rfl) (by kernel_rfl) (fun _ _ _ h => h) (by rfl) (fun w hSw => by (have hSw2 := CvS.facts hSw; clear hSw; go_simp; first | done | exact rfl)) (by assumption) ?_
            simp only [List.setIfInBounds_toArray, List.set_cons_zero, List.set_cons_succ]
            refine take_at (i := 1) 54 rfl rfl (by kernel_rfl) (by kernel_rfl) (by kernel_rfl) (fun _ _ _ h => h) (by rfl) (fun w hSw => by (have hSw2 := CvS.facts hSw; clear hSw; go_simp; first | done | exact rfl)) (by assumption) ?_
            simp only [List.setIfInBounds_toArray, List.set_cons_zero, List.set_cons_succ]
            refine take_at (i := 2) 55 rfl rfl (by kernel_rfl) (by kernel_rfl) (by kernel_rfl) (fun _ _ _ h => h) (by rfl) (fun w hSw => by (have hSw2 := CvS.facts hSw; clear hSw; go_simp; first | done | exact rfl)) (by assumption) ?_
            simp only [List.setIfInBounds_toArray, List.set_cons_zero, List.set_cons_succ]
            refine take_at (i := 3) 56 rfl rfl (by kernel_rfl) (by kernel_rfl) (by kernel_rfl) (fun _ _ _ h => h) (by rfl) (fun w hSw => by (have hSw2 := CvS.facts hSw; clear hSw; go_simp; first | done | exact rfl)) (by assumption) ?_
            simp only [List.setIfInBounds_toArray, List.set_cons_zero, List.set_cons_succ]
            refine take_at (i := 4) 8 rfl rfl (by kernel_rfl) (by kernel_rfl) (by kernel_rfl) (fun _ _ _ h => h) (by rfl) (fun w hSw => by (clear hSw; go_simp; first | done | exact rfl)) (by assumption) ?_
            simp only [List.setIfInBounds_toArray, List.set_cons_zero, List.set_cons_succ]
            refine take_at (i := 5) 11 rfl rfl (by kernel_rfl) (by kernel_rfl) (by kernel_rfl) (fun _ _ _ h => h) (by rfl) (fun w hSw => by (clear hSw; go_simp; first | done | exact rfl)) (by assumption) ?_
            simp only [List.setIfInBounds_toArray, List.set_cons_zero, List.set_cons_succ]
            refine wpAnyH_done (by kernel_rfl) ?_ _
            have HND : Hid (InC w (N0 + 2 * (k + 1)) w12.drew s p (saveD d 1 n xs).1 fp' (n + 1) xs g') := HN.out.then (Below.refl _ w12).drew
            clear hHeld hcv HN
            go_wp2_with fail
            go_roundw
            case rel => exact ⟨k + 1, _, fp', n + 1, xs, g', by go_num, by omega, rfl, rfl, HND.out⟩
            case measure => simp [intOf]; omega
          · rw [he]
            obtain ⟨cut, hcut⟩ : ∃ cut, xs = cut := ⟨_, rfl⟩
            subst hcut
            have hcv : (convert 36 9 (.slice ao2 xs.length cap2)).run Try.prog w12 = .ok (.string (strB xs)) w12 := (HRow.out.below hF.below).str
            obtain ⟨d', hd'⟩ : ∃ d', (saveD d 1 n xs).1 = d' := ⟨_, rfl⟩
            rw [hd'] at hF hde
            have HFI : Hid (FiC w (N0 + 2 * k + 2) w12 p d' fp' now xs) := hF
            have HDE : Hid (d'.dead = true) := hde
            have hl' : (xs.length : Int) ≤ 48 := by omega
            clear hsa he hRX hF hde hd'
            go_wp2_with fail
            refine (Dead_any (N0 + 2 * k + 2) p d' fp' w12 HFI.out.dk).mono ?_
            rintro e w12' ⟨rfl, rfl⟩
            rw [HDE.out]
            go_wp2_with fail
            clear hcv
            refine (Crash_any (N0 + 2 * k + 2) p d' fp' v2 ps w12' HFI.out.dk (HP.out.below HFI.out.below) (by omega)).mono ?_
            rintro e w20 ⟨q, fq, rfl, hc20, hn20, hf20⟩
            obtain ⟨m, hmN, hval⟩ : ∃ m, m ≤ (N0 + 2 * k + 2) ∧ (openS (crashD d' ps).secs 1 = (m, now) ∨ openS (crashD d' ps).secs 1 = (m, xs)) := HFI.out.fnd ps
            obtain ⟨val, hopn, hvc⟩ : ∃ val, openS (crashD d' ps).secs 1 = (m, val) ∧ (val = now ∨ val = xs) := by
              rcases hval with h | h
              · exact ⟨now, h, .inl rfl⟩
              · exact ⟨xs, h, .inr rfl⟩
            have hl48 : val.length ≤ 48 := by rcases hvc with h | h; rw [h]; exact HFI.out.l1; rw [h]; exact HFI.out.l2
            have HO20 : Hid (OuC w (N0 + 2 * k + 2) w20 q (crashD d' ps) fq m val) := by
              have hs1 := HFI.out.below.size
              exact ⟨hc20, rfl, HFI.out.room, bytes_crash HFI.out.byt ps, fun t ht => crashS_fresh ht, hopn, hl48, hmN, fun b hb => (by have := hf20 b hb; omega), HFI.out.below.trans (hn20.mono hs1)⟩
            clear hc20 hn20 hf20 hval hopn
            go_wp2_with fail
            refine (Open_any (N0 + 2 * k + 2) q (crashD d' ps) fq 1 w20 HO20.out.dk (by omega) HO20.out.byt).mono ?_
            rintro e w21 (⟨hdead, _⟩ | ⟨_, t, g21, rfl, hsl21, _, _, hn21⟩)
            · exact absurd hdead (by rw [HO20.out.dead]; simp)
            rw [HO20.out.opn] at hsl21
            have HT21 : Hid (SlotAt w21 t q 1 m val g21) := hsl21
            have HO21 : Hid (OuC w (N0 + 2 * k + 2) w21 q (crashD d' ps) fq m val) := HO20.out.then hn21
            clear hsl21 hn21 HO20
            go_wp2_with fail
            refine (Value_any w21 t q 1 m val g21 HT21.out (by omega)).mono ?_
            rintro e w22 ⟨⟨v22, rfl, hrow22⟩, hn22⟩
            have hcv22 := hrow22.str
            have HT22 : Hid (SlotAt w22 t q 1 m val g21) := HT21.out.below hn22
            have HO22 : Hid (OuC w (N0 + 2 * k + 2) w22 q (crashD d' ps) fq m val) := HO21.out.then hn22
            clear hrow22 hn22 HT21 HO21
            cases hq : ((strB val).toList == (strB now).toList) with
            | true =>
              have hq' : ((strB val).toList != (strB now).toList) = false := by simp only [bne, hq, Bool.not_true]
              go_wp2_with fail
              refine (Value_any w22 t q 1 m val g21 HT22.out (by omega)).mono ?_
              rintro e w23 ⟨⟨v23, rfl, hrow23⟩, hn23⟩
              have hcv23 := hrow23.str
              have HO23 : Hid (OuC w (N0 + 2 * k + 2) w23 q (crashD d' ps) fq m val) := HO22.out.then hn23
              clear hrow23 hn23 hcv22 hq hq'
              go_wp2_with fail
              go_roundw
              case rel => exact ⟨i + 1, (N0 + 2 * k + 2), q, _, fq, m, val, by go_num, by omega, by omega, rfl, rfl, HO23.out⟩
              case measure => simp [intOf]; omega
            | false =>
              have hvw : val = xs := by
                rcases hvc with h | h
                · rw [h] at hq; simp at hq
                · exact h
              obtain rfl := hvw
              have hq' : ((strB val).toList != (strB now).toList) = true := by simp only [bne, hq, Bool.not_false]
              go_wp2_with fail
              refine (Value_any w22 t q 1 m val g21 HT22.out (by omega)).mono ?_
              rintro e w23 ⟨⟨v23, rfl, hrow23⟩, hn23⟩
              have hcv23 := hrow23.str
              have HT23 : Hid (SlotAt w23 t q 1 m val g21) := HT22.out.below hn23
              have HO23 : Hid (OuC w (N0 + 2 * k + 2) w23 q (crashD d' ps) fq m val) := HO22.out.then hn23
              clear hrow23 hn23 hcv22
              go_wp2_with fail
              refine (Value_any w23 t q 1 m val g21 HT23.out (by omega)).mono ?_
              rintro e w24 ⟨⟨v24, rfl, hrow24⟩, hn24⟩
              have hcv24 := hrow24.str
              have HO24 : Hid (OuC w (N0 + 2 * k + 2) w24 q (crashD d' ps) fq m val) := HO23.out.then hn24
              clear hrow24 hn24 hcv23 hq hq'
              go_wp2_with fail
              go_roundw
              case rel => exact ⟨i + 1, (N0 + 2 * k + 2), q, _, fq, m, val, by go_num, by omega, by omega, rfl, rfl, HO24.out⟩
              case measure => simp [intOf]; omega
          · rw [he]
            have HN : Hid (InC w (N0 + 2 * (k + 1)) w12 s p (saveD d 1 n xs).1 fp' n now g') := hN
            obtain ⟨d', hd'⟩ : ∃ d', (saveD d 1 n xs).1 = d' := ⟨_, rfl⟩
            rw [hd'] at HN hde
            have HDE : Hid (d'.dead = false) := hde
            clear hsa he hRX hN hde hd'
            go_wp2_with fail
            refine (Dead_any (N0 + 2 * (k + 1)) p d' fp' w12 HN.out.o.dk).mono ?_
            rintro e w12' ⟨rfl, rfl⟩
            rw [HDE.out]
            go_wp2_with fail
            go_roundw
            case rel => exact ⟨k + 1, d', fp', n, now, g', by go_num, by omega, rfl, rfl, HN.out⟩
            case measure => simp [intOf]; omega
        · have hxn : ¬ ((k : Int) < (L.length : Int)) := by omega
          obtain ⟨cut, hcut⟩ : ∃ cut, cut = now := ⟨_, rfl⟩
          have HFI : Hid (FiC w (N0 + 2 * k) wr p d fp now cut) := by subst hcut; exact HI.out.o.fin
          have hkk : k ≤ 1048576 := by omega
          go_wp2_with fail
          refine (Crash_any (N0 + 2 * k) p d fp v2 ps wr HFI.out.dk (HP.out.below HFI.out.below) (by omega)).mono ?_
          rintro e w20 ⟨q, fq, rfl, hc20, hn20, hf20⟩
          obtain ⟨m, hmN, hval⟩ : ∃ m, m ≤ (N0 + 2 * k) ∧ (openS (crashD d ps).secs 1 = (m, now) ∨ openS (crashD d ps).secs 1 = (m, cut)) := HFI.out.fnd ps
          obtain ⟨val, hopn, hvc⟩ : ∃ val, openS (crashD d ps).secs 1 = (m, val) ∧ (val = now ∨ val = cut) := by
            rcases hval with h | h
            · exact ⟨now, h, .inl rfl⟩
            · exact ⟨cut, h, .inr rfl⟩
          have hl48 : val.length ≤ 48 := by rcases hvc with h | h; rw [h]; exact HFI.out.l1; rw [h]; exact HFI.out.l2
          have HO20 : Hid (OuC w (N0 + 2 * k) w20 q (crashD d ps) fq m val) := by
            have hs1 := HFI.out.below.size
            exact ⟨hc20, rfl, HFI.out.room, bytes_crash HFI.out.byt ps, fun t ht => crashS_fresh ht, hopn, hl48, hmN, fun b hb => (by have := hf20 b hb; omega), HFI.out.below.trans (hn20.mono hs1)⟩
          clear hc20 hn20 hf20 hval hopn
          go_wp2_with fail
          refine (Open_any (N0 + 2 * k) q (crashD d ps) fq 1 w20 HO20.out.dk (by omega) HO20.out.byt).mono ?_
          rintro e w21 (⟨hdead, _⟩ | ⟨_, t, g21, rfl, hsl21, _, _, hn21⟩)
          · exact absurd hdead (by rw [HO20.out.dead]; simp)
          rw [HO20.out.opn] at hsl21
          have HT21 : Hid (SlotAt w21 t q 1 m val g21) := hsl21
          have HO21 : Hid (OuC w (N0 + 2 * k) w21 q (crashD d ps) fq m val) := HO20.out.then hn21
          clear hsl21 hn21 HO20
          go_wp2_with fail
          refine (Value_any w21 t q 1 m val g21 HT21.out (by omega)).mono ?_
          rintro e w22 ⟨⟨v22, rfl, hrow22⟩, hn22⟩
          have hcv22 := hrow22.str
          have HT22 : Hid (SlotAt w22 t q 1 m val g21) := HT21.out.below hn22
          have HO22 : Hid (OuC w (N0 + 2 * k) w22 q (crashD d ps) fq m val) := HO21.out.then hn22
          clear hrow22 hn22 HT21 HO21
          cases hq : ((strB val).toList == (strB now).toList) with
          | true =>
            have hq' : ((strB val).toList != (strB now).toList) = false := by simp only [bne, hq, Bool.not_true]
            go_wp2_with fail
            refine (Value_any w22 t q 1 m val g21 HT22.out (by omega)).mono ?_
            rintro e w23 ⟨⟨v23, rfl, hrow23⟩, hn23⟩
            have hcv23 := hrow23.str
            have HO23 : Hid (OuC w (N0 + 2 * k) w23 q (crashD d ps) fq m val) := HO22.out.then hn23
            clear hrow23 hn23 hcv22 hq hq'
            go_wp2_with fail
            go_roundw
            case rel => exact ⟨i + 1, (N0 + 2 * k), q, _, fq, m, val, by go_num, by omega, by omega, rfl, rfl, HO23.out⟩
            case measure => simp [intOf]; omega
          | false =>
            exfalso
            rw [hcut] at hvc
            have hvn : val = now := by rcases hvc with h | h <;> exact h
            rw [hvn] at hq
            simp at hq
    · go_wp2_with fail
      go_ret
      exact ⟨rfl, HO.out.below⟩
end Go.Proofs.Ytpmmpdkeahmdiaa
