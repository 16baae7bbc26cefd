/- CodecReads: the law's own walk. -/
import Derived.Test.YtidnhldjnbpafaaOpsIn
import Derived.Test.YtidnhldjnbpafaaRefEnds
import Derived.Test.YtidnhldjnbpafaaRefReader3
import Derived.Deep.CutBlock
namespace Go.Proofs.Ytidnhldjnbpafaa
open Go.RowKit
set_option maxRecDepth 100000
attribute [local go_sem ↓] Go.wp_at_zero Go.wp_at_succ

theorem Rd.above {w w' : World} {rb : Nat} {xs : List Nat} {e : Int} (h : Rd w rb xs e) (hb : Below (rb + 1) w w') : Rd w' rb xs e := by
  obtain ⟨v, h1, h2, h3⟩ := h
  exact ⟨v, (hb.block rb (by omega)).trans h1, h2.below (hb.mono (by omega)), h3⟩
/-- The reference's reader in block sb. -/
def Sv (w : World) (sb : Nat) (v : Value) (n : Nat) (e : Int) : Prop := w.heap[sb]? = some (.cells #[v, .int .i64 (n : Int), .int .i64 e] 36 (0, 0))
theorem Sv.cells {w : World} {sb : Nat} {v : Value} {n : Nat} {e : Int} (h : Sv w sb v n e) :
    w.cell? ⟨sb, 0, none⟩ = some v ∧ w.cell? ⟨sb, 1, none⟩ = some (.int .i64 (n : Int)) ∧ w.cell? ⟨sb, 2, none⟩ = some (.int .i64 e) ∧ w.frozen? ⟨sb, 0, none⟩ = false ∧ w.frozen? ⟨sb, 1, none⟩ = false ∧ w.frozen? ⟨sb, 2, none⟩ = false := agg3 h
theorem Sv.lt {w : World} {sb : Nat} {v : Value} {n : Nat} {e : Int} (h : Sv w sb v n e) : sb < w.heap.size := (Array.getElem?_eq_some_iff.1 h).1
theorem Sv.below {w w' : World} {sb : Nat} {v : Value} {n : Nat} {e : Int} (h : Sv w sb v n e) (hb : Below w.heap.size w w') : Sv w' sb v n e := (hb.block sb h.lt).trans h
theorem Sv.but {w w' : World} {sb r : Nat} {v : Value} {n : Nat} {e : Int} (h : Sv w sb v n e) (hb : But r w w') (hr : sb ≠ r) : Sv w' sb v n e := (hb.block sb h.lt hr).trans h
theorem Sv.store {w : World} {sb : Nat} {v v' : Value} {n n' : Nat} {e e' : Int} (h : Sv w sb v n e) :
    Sv (((w.setCell ⟨sb, 0, none⟩ v').setCell ⟨sb, 1, none⟩ (.int .i64 (n' : Int))).setCell ⟨sb, 2, none⟩ (.int .i64 e')) sb v' n' e' := by
  unfold Sv at *
  simp [World.setCell, Array.getElem?_modify, h]
theorem store_below {w : World} {sb B : Nat} {a b c : Value} (h : B ≤ sb) : Below B w (((w.setCell ⟨sb, 0, none⟩ a).setCell ⟨sb, 1, none⟩ b).setCell ⟨sb, 2, none⟩ c) :=
  (((Below.refl B w).setCell (p := ⟨sb, 0, none⟩) h a).setCell (p := ⟨sb, 1, none⟩) h b).setCell (p := ⟨sb, 2, none⟩) h c

set_option maxHeartbeats 1000000 in
theorem End_same (rb : Nat) (xs : List Nat) (e : Int) (w : World) (h : Rd w rb xs e) :
    Calls Try.prog 24 #[.pointer (some ⟨rb, 0, none⟩)] w fun x w' => x = .returned (.int .i64 (endE xs.length e)) ∧ w' = w := by
  obtain ⟨v, h1, h2, h3, h4⟩ := h
  obtain ⟨c0, c1, f0, f1⟩ := rd_cells h1
  obtain ⟨ao, cap, rfl, hcap⟩ := h2.shape
  clear h1 h2 h3
  by_cases he : e = 0
  · subst he
    by_cases hx : 0 < xs.length
    · have HF : Hid (endE xs.length 0 = 23) := by show _ = _; rw [endE, if_pos ⟨rfl, hx⟩]
      go_enter Try.func24, Try.ntmps24
      go_wp2
      go_ret
      exact ⟨by rw [HF.out]; rfl, rfl⟩
    · have HF : Hid (endE xs.length 0 = 0) := by show _ = _; rw [endE, if_neg (fun h => hx h.2)]
      have hx0 : (xs.length : Int) = 0 := by omega
      go_enter Try.func24, Try.ntmps24
      go_wp2
      go_ret
      exact ⟨by rw [HF.out]; rfl, rfl⟩
  · have HF : Hid (endE xs.length e = e) := by show _ = _; rw [endE, if_neg (fun h => he h.1)]
    have hb : (e == 0) = false := by simpa using he
    go_enter Try.func24, Try.ntmps24
    go_wp2
    go_ret
    exact ⟨by rw [HF.out]; rfl, rfl⟩
theorem Rd.drew {w : World} {rb : Nat} {xs : List Nat} {e : Int} (h : Rd w rb xs e) : Rd w.drew rb xs e := h
theorem But.of_drew {r : Nat} {w w' : World} (h : But r w.drew w') : But r w w' := ⟨h.os, h.tape, h.output, h.size, h.block⟩
/-- All that is known between two calls. -/
def St (w : World) (rb sb : Nat) (v : Value) (xs : List Nat) (n : Nat) (e : Int) (w' : World) : Prop := Rd w' rb (xs.drop n) e ∧ Sv w' sb v n e ∧ Below w.heap.size w w' ∧ Row w.heap.size w' v xs
theorem St.drew {w w' : World} {rb sb : Nat} {v : Value} {xs : List Nat} {n : Nat} {e : Int} (h : St w rb sb v xs n e w') : St w rb sb v xs n e w'.drew := ⟨h.1, h.2.1, h.2.2.1.drew, h.2.2.2⟩
theorem St.drewN {w w' : World} {rb sb : Nat} {v : Value} {xs : List Nat} {n : Nat} {e : Int} (h : St w rb sb v xs n e w') (j : Nat) : St w rb sb v xs n e (w'.drewN j) := ⟨h.1, h.2.1, below_drewN h.2.2.1 j, h.2.2.2⟩
theorem St.below {w w' w'' : World} {rb sb : Nat} {v : Value} {xs : List Nat} {n : Nat} {e : Int} (h : St w rb sb v xs n e w') (hb : Below w'.heap.size w' w'') : St w rb sb v xs n e w'' :=
  ⟨h.1.but hb, h.2.1.below hb, h.2.2.1.trans (hb.mono h.2.2.1.size), h.2.2.2.below (hb.mono h.2.2.1.size)⟩
theorem keepS {w w' : World} {rb sb : Nat} {v : Value} {xs : List Nat} {n : Nat} {e : Int} (h : St w rb sb v xs n e w') :
    St w rb sb v xs n e w' ∧ w'.cell? ⟨sb, 0, none⟩ = some v ∧ w'.cell? ⟨sb, 1, none⟩ = some (.int .i64 (n : Int)) ∧ w'.cell? ⟨sb, 2, none⟩ = some (.int .i64 e) :=
  ⟨h, h.2.1.cells.1, h.2.1.cells.2.1, h.2.1.cells.2.2.1⟩

theorem op_kept {w w3 : World} {a b c : Value} {T : TypeId} (h : Below (w.alloc (.cells #[a, b, c] T)).heap.size (w.alloc (.cells #[a, b, c] T)) w3) (o : Obj) :
    (w3.alloc o).cell? ⟨w.heap.size, 0, none⟩ = some a ∧ (w3.alloc o).cell? ⟨w.heap.size, 1, none⟩ = some b ∧ (w3.alloc o).cell? ⟨w.heap.size, 2, none⟩ = some c := by
  have h1 : (w.alloc (.cells #[a, b, c] T)).heap[w.heap.size]? = some (.cells #[a, b, c] T (0, 0)) := heap_alloc_new w _
  have hlt := (Array.getElem?_eq_some_iff.1 h1).1
  have h2 := (h.block _ hlt).trans h1
  have hlt2 := (Array.getElem?_eq_some_iff.1 h2).1
  have h3 : (w3.alloc o).heap[w.heap.size]? = some (.cells #[a, b, c] T (0, 0)) := by
    rw [← h2]
    exact ((Below.refl w3.heap.size w3).alloc (Nat.le_refl _) o).block _ hlt2
  have h4 := agg3 h3
  exact ⟨h4.1, h4.2.1, h4.2.2.1⟩

theorem store_but {w : World} {sb : Nat} {a b c : Value} : But sb w (((w.setCell ⟨sb, 0, none⟩ a).setCell ⟨sb, 1, none⟩ b).setCell ⟨sb, 2, none⟩ c) :=
  (((But.refl sb w).setCell 0 a).setCell 1 b).setCell 2 c
theorem Sv.storeE {w : World} {sb : Nat} {v : Value} {n : Nat} {e e' : Int} (h : Sv w sb v n e) : Sv (w.setCell ⟨sb, 2, none⟩ (.int .i64 e')) sb v n e' := by
  unfold Sv at *
  simp [World.setCell, Array.getElem?_modify, h]
theorem op_but {w w4 : World} {rb : Nat} {a b c : Value} {T : TypeId} (h : But rb (w.alloc (.cells #[a, b, c] T)) w4) (hr : rb < w.heap.size) : w4.cell? ⟨w.heap.size, 1, none⟩ = some b := by
  have h1 : (w.alloc (.cells #[a, b, c] T)).heap[w.heap.size]? = some (.cells #[a, b, c] T (0, 0)) := heap_alloc_new w _
  have hlt := (Array.getElem?_eq_some_iff.1 h1).1
  exact (agg3 ((h.block _ hlt (by omega)).trans h1)).2.1

set_option maxHeartbeats 8000000 in
theorem reads_walk (v u : Value) (w : World) (xs : List Nat) (hrow : Row w.heap.size w v xs) (hl : xs.length ≤ 140737488351232) (hx : ∀ x ∈ xs, x < 256) (L : Nat) (hscript : Script w u L) :
    Calls Try.prog 5 #[v, u] w fun e w' => e = .returned (.bool true) ∧ Below w.heap.size w w' := by
  have HR : Hid (Row w.heap.size w v xs) := hrow
  have HX : Hid (∀ x ∈ xs, x < 256) := hx
  obtain ⟨ao, cap, rfl, hcap⟩ := hrow.shape
  obtain ⟨ao2, cap2, rfl, hL, hL2, hops⟩ := hscript
  have HOps : Hid (0 < L → ∃ b off, ao2 = some ⟨b, off, none⟩ ∧ b < w.heap.size ∧ ∀ i, i < L → ∃ (kd n : Int) (m : Nat), w.cell? ⟨b, off + i * 3, none⟩ = some (.int .i64 kd) ∧ w.cell? ⟨b, off + i * 3 + 1, none⟩ = some (.int .i64 n) ∧ w.cell? ⟨b, off + i * 3 + 2, none⟩ = some (.int .u64 (m : Int)) ∧ -9223372036854775808 ≤ n ∧ n ≤ 9223372036854775807) := hops
  clear hrow hx hops
  go_enter Try.func5, Try.ntmps5
  go_wp2_with fail
  refine (Read_any _ _ xs w HR.out HX.out (by omega)).mono ?_
  rintro e w1 ⟨rb, rfl, hrb, hrd, hb1⟩
  have hs1 := hb1.size
  have hlt1 := hrd.lt
  have hA1 : Below w1.heap.size w1 (w1.alloc (Obj.cells #[.slice ao xs.length cap, .int .i64 0, .int .i64 0] 36)) := (Below.refl _ _).alloc (Nat.le_refl _) _
  have HRD1 : Hid (Rd (w1.alloc (Obj.cells #[.slice ao xs.length cap, .int .i64 0, .int .i64 0] 36)) rb (xs.drop 0) 0) := hrd.but hA1
  have HSV1 : Hid (Sv (w1.alloc (Obj.cells #[.slice ao xs.length cap, .int .i64 0, .int .i64 0] 36)) w1.heap.size (.slice ao xs.length cap) 0 0) := heap_alloc_new w1 _
  have HB1 : Hid (Below w.heap.size w (w1.alloc (Obj.cells #[.slice ao xs.length cap, .int .i64 0, .int .i64 0] 36))) := hb1.alloc hs1 _
  clear hrd hA1 hb1
  go_wp2_with fail
  refine (alive_any _).mono ?_
  rintro e w2 ⟨rfl, hb2⟩
  have HRD2 : Hid (Rd w2 rb (xs.drop 0) 0) := HRD1.out.but hb2
  have HSV2 : Hid (Sv w2 w1.heap.size (.slice ao xs.length cap) 0 0) := HSV1.out.below hb2
  have hb02 : Below w.heap.size w w2 := HB1.out.trans (hb2.mono HB1.out.size)
  clear HRD1 HSV1 HB1 hb2
  have hsbw : w.heap.size ≤ w1.heap.size := hs1
  generalize hsb : w1.heap.size = sb at *
  clear hsb
  have hrs : rb < sb := hlt1
  go_wp2_with fail
  go_loopw [28] (fun vk wr => ∃ (k n : Nat) (e : Int), k ≤ L ∧ vk = .int .i64 (k : Int) ∧ n ≤ xs.length ∧ Rd wr rb (xs.drop n) e ∧ Sv wr sb (.slice ao xs.length cap) n e ∧ Below w.heap.size w wr)
    (fun vk _ => L - (intOf vk).toNat)
  case atStart => exact ⟨0, 0, 0, Nat.zero_le _, rfl, Nat.zero_le _, HRD2.out, HSV2.out, hb02⟩
  case round =>
    obtain ⟨k, n, e, hk, rfl, hn, hrd, hsv, hbel⟩ := hrel
    have HRD : Hid (Rd wr rb (xs.drop n) e) := hrd
    have HSV : Hid (Sv wr sb (.slice ao xs.length cap) n e) := hsv
    have hsr := hbel.size
    have hsbl := hsv.lt
    clear hrd hsv HRD2 HSV2 hb02
    by_cases hkL : k < L
    · obtain ⟨b, off, rfl, hbw, hcs⟩ := HOps.out (by omega)
      obtain ⟨kd, N, m, o0, o1, o2, hN1, hN2⟩ := hcs k hkL
      have o0 := (hbel.cell (p := ⟨b, off + k * 3, none⟩) hbw).trans o0
      have o1 := (hbel.cell (p := ⟨b, off + k * 3 + 1, none⟩) hbw).trans o1
      have o2 := (hbel.cell (p := ⟨b, off + k * 3 + 2, none⟩) hbw).trans o2
      have hbr : b < wr.heap.size := by omega
      clear hcs
      have hA : ∀ o, Below wr.heap.size wr (wr.alloc o) := fun o => (Below.refl _ _).alloc (Nat.le_refl _) o
      have HW0 : Hid (∀ o, Rd (wr.alloc o) rb (xs.drop n) e ∧ Sv (wr.alloc o) sb (.slice ao xs.length cap) n e ∧ Below w.heap.size w (wr.alloc o)) := fun o => ⟨HRD.out.but (hA o), HSV.out.below (hA o), hbel.alloc hsr o⟩
      clear hA
      obtain ⟨s0, s1, s2, f0, f1, f2⟩ := HSV.out.cells
      go_upto_block 2 with fail
      go_cut [9] from 29 to 118 (fun s9 wc => s9 = .bool true ∧ ∃ (n' : Nat) (e' : Int), n' ≤ xs.length ∧ St w rb sb (.slice ao xs.length cap) xs n' e' wc)
      case first =>
        by_cases h0 : kd = 0
        · subst h0
          have hRB : ∀ w', Rd w' rb (xs.drop n) e → Calls Try.prog 16 #[.pointer (some ⟨rb, 0, none⟩)] w' fun x w'' => x = .returned (bv (byteR (xs.drop n) e).1) ∧ Rd w'' rb (byteR (xs.drop n) e).2.1 (byteR (xs.drop n) e).2.2 ∧ But rb w' w'' := fun w' h => Byte_any rb _ _ _ h
          have hRF : ∀ o, Calls Try.prog 15 #[rv (.slice ao xs.length cap) n e] (wr.alloc o) fun x w' => ∃ n', x = .returned (.tuple #[rv (.slice ao xs.length cap) n' (byteR (xs.drop n) e).2.2, bv (byteR (xs.drop n) e).1]) ∧ xs.drop n' = (byteR (xs.drop n) e).2.1 ∧ n' ≤ xs.length ∧ Below (wr.alloc o).heap.size (wr.alloc o) w' := fun o => refByte_any _ _ xs n e _ (HR.out.below (HW0.out o).2.2) hn (by omega)
          generalize byteR (xs.drop n) e = R at hRB hRF
          have HRB : Hid _ := hRB
          have HRF : Hid _ := hRF
          clear hRB hRF
          go_wp2_with fail
          refine (HRF.out _).mono ?_
          rintro x w3 ⟨n', rfl, hdrop, hnX, hb3⟩
          have hrd3 := (HW0.out _).1.but hb3
          have hsv3 := (HW0.out _).2.1.below hb3
          have hbw3 : Below w.heap.size w w3 := (HW0.out _).2.2.trans (hb3.mono (HW0.out _).2.2.size)
          have hsl3 := hsv3.lt
          have hA3 : Below w3.heap.size w3 (w3.alloc (Obj.cells #[.slice ao xs.length cap, .int .i64 (n' : Int), .int .i64 R.2.2] 36)) := (Below.refl _ _).alloc (Nat.le_refl _) _
          have HRDT : Hid (Rd (w3.alloc (Obj.cells #[.slice ao xs.length cap, .int .i64 (n' : Int), .int .i64 R.2.2] 36)) rb (xs.drop n) e) := hrd3.but hA3
          have HSVT : Hid (Sv (w3.alloc (Obj.cells #[.slice ao xs.length cap, .int .i64 (n' : Int), .int .i64 R.2.2] 36)) sb (.slice ao xs.length cap) n e) := hsv3.below hA3
          have HTb : Hid (Sv (w3.alloc (Obj.cells #[.slice ao xs.length cap, .int .i64 (n' : Int), .int .i64 R.2.2] 36)) w3.heap.size (.slice ao xs.length cap) n' R.2.2) := heap_alloc_new w3 _
          have HBT : Hid (Below w.heap.size w (w3.alloc (Obj.cells #[.slice ao xs.length cap, .int .i64 (n' : Int), .int .i64 R.2.2] 36))) := hbw3.alloc hbw3.size _
          have HDR : Hid (xs.drop n' = R.2.1) := hdrop
          clear hrd3 hsv3 hbw3 hA3 hb3 hdrop s0 s1 s2 f0 f1 f2
          go_wp2_with fail
          go_region_law (first
            | (go_simp; go_at_call 16; refine (HRB.out _ (Rd.drew HRDT.out)).mono ?_; rintro x w4 ⟨rfl, hrd4, hbut4d⟩; have hbut4 := But.of_drew hbut4d; have sv4 : Sv w4 sb (.slice ao xs.length cap) n e := Sv.but HSVT.out hbut4 (by omega); have tt4 : Sv w4 w3.heap.size (.slice ao xs.length cap) n' R.2.2 := Sv.but HTb.out hbut4 (by omega); obtain ⟨s0, s1, s2, f0, f1, f2⟩ := sv4.cells; obtain ⟨t0, t1, t2, g0, g1, g2⟩ := tt4.cells))
          all_goals
            have hb04 : Below w.heap.size w w4 := HBT.out.trans (hbut4.below (by omega) HBT.out.size)
            generalize hwx : World.setCell _ _ _ = wX
            have HRDX : Rd wX rb (xs.drop n') R.2.2 := by rw [← hwx, HDR.out]; exact hrd4.above (store_below (by omega))
            have HSVX : Sv wX sb (.slice ao xs.length cap) n' R.2.2 := by rw [← hwx]; exact sv4.store
            have HBX : Below w.heap.size w wX := by rw [← hwx]; exact hb04.trans (store_below (by omega))
            clear hwx s0 s1 s2 f0 f1 f2 t0 t1 t2 g0 g1 g2 hrd4 hbut4 hbut4d sv4 tt4 hb04 HRDT HSVT HTb HBT HDR
            have hstX : St w rb sb (.slice ao xs.length cap) xs n' R.2.2 wX := ⟨HRDX, HSVX, HBX, HR.out.below HBX⟩
            go_wp2_with fail
            go_meet
            case rel => exact ⟨rfl, n', R.2.2, hnX, hstX⟩
        · by_cases h1 : kd = 1
          · subst h1
            have hRB : ∀ w', Rd w' rb (xs.drop n) e → Calls Try.prog 18 #[.pointer (some ⟨rb, 0, none⟩), .int .u64 (m : Int)] w' fun x w'' => x = .returned (.int .u64 ((uintR (xs.drop n) e m).1 : Int)) ∧ Rd w'' rb (uintR (xs.drop n) e m).2.1 (uintR (xs.drop n) e m).2.2 ∧ But rb w' w'' := fun w' h => Uint_any rb _ _ _ _ h
            have hRF : ∀ o, Calls Try.prog 17 #[rv (.slice ao xs.length cap) n e, .int .u64 (m : Int)] (wr.alloc o) fun x w' => ∃ n', x = .returned (.tuple #[rv (.slice ao xs.length cap) n' (uintR (xs.drop n) e m).2.2, .int .u64 ((uintR (xs.drop n) e m).1 : Int)]) ∧ xs.drop n' = (uintR (xs.drop n) e m).2.1 ∧ n ≤ n' ∧ n' ≤ xs.length ∧ Below (wr.alloc o).heap.size (wr.alloc o) w' := fun o => refGetUint_any _ _ xs n e m _ (HR.out.below (HW0.out o).2.2) (HW0.out o).2.2.size hn HX.out (by omega)
            generalize uintR (xs.drop n) e m = R at hRB hRF
            have HRB : Hid _ := hRB
            have HRF : Hid _ := hRF
            clear hRB hRF
            go_wp2_with fail
            refine (HRF.out _).mono ?_
            rintro x w3 ⟨n', rfl, hdrop, _, hnX, hb3⟩
            have hrd3 := (HW0.out _).1.but hb3
            have hsv3 := (HW0.out _).2.1.below hb3
            have hbw3 : Below w.heap.size w w3 := (HW0.out _).2.2.trans (hb3.mono (HW0.out _).2.2.size)
            have hsl3 := hsv3.lt
            have hA3 : Below w3.heap.size w3 (w3.alloc (Obj.cells #[.slice ao xs.length cap, .int .i64 (n' : Int), .int .i64 R.2.2] 36)) := (Below.refl _ _).alloc (Nat.le_refl _) _
            have HRDT : Hid (Rd (w3.alloc (Obj.cells #[.slice ao xs.length cap, .int .i64 (n' : Int), .int .i64 R.2.2] 36)) rb (xs.drop n) e) := hrd3.but hA3
            have HSVT : Hid (Sv (w3.alloc (Obj.cells #[.slice ao xs.length cap, .int .i64 (n' : Int), .int .i64 R.2.2] 36)) sb (.slice ao xs.length cap) n e) := hsv3.below hA3
            have HTb : Hid (Sv (w3.alloc (Obj.cells #[.slice ao xs.length cap, .int .i64 (n' : Int), .int .i64 R.2.2] 36)) w3.heap.size (.slice ao xs.length cap) n' R.2.2) := heap_alloc_new w3 _
            have HBT : Hid (Below w.heap.size w (w3.alloc (Obj.cells #[.slice ao xs.length cap, .int .i64 (n' : Int), .int .i64 R.2.2] 36))) := hbw3.alloc hbw3.size _
            have HDR : Hid (xs.drop n' = R.2.1) := hdrop
            have hoT := op_kept hb3 (Obj.cells #[.slice ao xs.length cap, .int .i64 (n' : Int), .int .i64 R.2.2] 36)
            clear hrd3 hsv3 hbw3 hA3 hb3 hdrop s0 s1 s2 f0 f1 f2
            go_wp2_with fail
            skip
            go_region_law (first
              | (go_simp; go_at_call 18; refine (HRB.out _ (Rd.drew HRDT.out)).mono ?_; rintro x w4 ⟨rfl, hrd4, hbut4d⟩; have hbut4 := But.of_drew hbut4d; have sv4 : Sv w4 sb (.slice ao xs.length cap) n e := Sv.but HSVT.out hbut4 (by omega); have tt4 : Sv w4 w3.heap.size (.slice ao xs.length cap) n' R.2.2 := Sv.but HTb.out hbut4 (by omega); obtain ⟨s0, s1, s2, f0, f1, f2⟩ := sv4.cells; obtain ⟨t0, t1, t2, g0, g1, g2⟩ := tt4.cells))
            all_goals
              have hb04 : Below w.heap.size w w4 := HBT.out.trans (hbut4.below (by omega) HBT.out.size)
              generalize hwx : World.setCell _ _ _ = wX
              have HRDX : Rd wX rb (xs.drop n') R.2.2 := by rw [← hwx, HDR.out]; exact hrd4.above (store_below (by omega))
              have HSVX : Sv wX sb (.slice ao xs.length cap) n' R.2.2 := by rw [← hwx]; exact sv4.store
              have HBX : Below w.heap.size w wX := by rw [← hwx]; exact hb04.trans (store_below (by omega))
              clear hwx s0 s1 s2 f0 f1 f2 t0 t1 t2 g0 g1 g2 hrd4 hbut4 hbut4d sv4 tt4 hb04 HRDT HSVT HTb HBT HDR
              have hstX : St w rb sb (.slice ao xs.length cap) xs n' R.2.2 wX := ⟨HRDX, HSVX, HBX, HR.out.below HBX⟩
              go_wp2_with fail
              go_meet
              case rel => exact ⟨rfl, n', R.2.2, hnX, hstX⟩
          · by_cases h2 : kd = 2
            · subst h2
              have hRB : ∀ w', Rd w' rb (xs.drop n) e → Calls Try.prog 20 #[.pointer (some ⟨rb, 0, none⟩), .int .i64 N] w' fun x w'' => ∃ v6, x = .returned v6 ∧ Bytes w'.heap.size w'' v6 (bytesR (xs.drop n) e N).1 ∧ Rd w'' rb (bytesR (xs.drop n) e N).2.1 (bytesR (xs.drop n) e N).2.2 ∧ But rb w' w'' := fun w' h => Bytes_any rb _ _ _ _ h hN1 hN2
              have hRF : ∀ o, Calls Try.prog 19 #[rv (.slice ao xs.length cap) n e, .int .i64 N] (wr.alloc o) fun x w' => ∃ n' v', x = .returned (.tuple #[rv (.slice ao xs.length cap) n' (bytesR (xs.drop n) e N).2.2, v']) ∧ xs.drop n' = (bytesR (xs.drop n) e N).2.1 ∧ n ≤ n' ∧ n' ≤ xs.length ∧ Bytes (wr.alloc o).heap.size w' v' (bytesR (xs.drop n) e N).1 ∧ Below (wr.alloc o).heap.size (wr.alloc o) w' := fun o => refGetBytes_any _ _ xs n e N _ (HR.out.below (HW0.out o).2.2) (HW0.out o).2.2.size hn HX.out hl hN1 hN2
              generalize bytesR (xs.drop n) e N = R at hRB hRF
              have HRB : Hid _ := hRB
              have HRF : Hid _ := hRF
              clear hRB hRF
              go_wp2_with fail
              refine (HRF.out _).mono ?_
              rintro x w3 ⟨n', v', rfl, hdrop, _, hnX, hv3, hb3⟩
              have hrd3 := (HW0.out _).1.but hb3
              have hsv3 := (HW0.out _).2.1.below hb3
              have hbw3 : Below w.heap.size w w3 := (HW0.out _).2.2.trans (hb3.mono (HW0.out _).2.2.size)
              have hsl3 := hsv3.lt
              have hA3 : Below w3.heap.size w3 (w3.alloc (Obj.cells #[.slice ao xs.length cap, .int .i64 (n' : Int), .int .i64 R.2.2] 36)) := (Below.refl _ _).alloc (Nat.le_refl _) _
              have HRDT : Hid (Rd (w3.alloc (Obj.cells #[.slice ao xs.length cap, .int .i64 (n' : Int), .int .i64 R.2.2] 36)) rb (xs.drop n) e) := hrd3.but hA3
              have HSVT : Hid (Sv (w3.alloc (Obj.cells #[.slice ao xs.length cap, .int .i64 (n' : Int), .int .i64 R.2.2] 36)) sb (.slice ao xs.length cap) n e) := hsv3.below hA3
              have HTb : Hid (Sv (w3.alloc (Obj.cells #[.slice ao xs.length cap, .int .i64 (n' : Int), .int .i64 R.2.2] 36)) w3.heap.size (.slice ao xs.length cap) n' R.2.2) := heap_alloc_new w3 _
              have HBT : Hid (Below w.heap.size w (w3.alloc (Obj.cells #[.slice ao xs.length cap, .int .i64 (n' : Int), .int .i64 R.2.2] 36))) := hbw3.alloc hbw3.size _
              have HDR : Hid (xs.drop n' = R.2.1) := hdrop
              have hoT := op_kept hb3 (Obj.cells #[.slice ao xs.length cap, .int .i64 (n' : Int), .int .i64 R.2.2] 36)
              have HV3 : Hid (Bytes wr.heap.size (w3.alloc (Obj.cells #[.slice ao xs.length cap, .int .i64 (n' : Int), .int .i64 R.2.2] 36)) v' R.1) := (hv3.mono ((Below.refl wr.heap.size wr).alloc (Nat.le_refl _) _).size).below hA3
              have hcW : (convert 22 9 v').run Try.prog ((w3.alloc (Obj.cells #[.slice ao xs.length cap, .int .i64 (n' : Int), .int .i64 R.2.2] 36))).drew = .ok (.string (strB R.1)) ((w3.alloc (Obj.cells #[.slice ao xs.length cap, .int .i64 (n' : Int), .int .i64 R.2.2] 36))).drew := (HV3.out.below ((Below.refl _ _).drew)).row.str
              have hrbw : rb < wr.heap.size := by omega
              clear hv3
              clear hrd3 hsv3 hbw3 hA3 hb3 hdrop s0 s1 s2 f0 f1 f2
              go_wp2_with fail
              go_region_law (first
                | (go_simp; go_at_call 20; refine (HRB.out _ (Rd.drew HRDT.out)).mono ?_; rintro x w4 ⟨v6, rfl, hv6, hrd4, hbut4d⟩; have hbut4 := But.of_drew hbut4d; have hv4 : Bytes wr.heap.size w4 v' R.1 := HV3.out.but hbut4 hrbw; have hc4 := hv4.row.str; have hc6 := hv6.row.str; have hs4 := (hv4.but (store_but (a := (.slice ao xs.length cap)) (b := .int .i64 (n' : Int)) (c := .int .i64 R.2.2)) hsbl).row.str; have hs6 := (hv6.but (store_but (a := (.slice ao xs.length cap)) (b := .int .i64 (n' : Int)) (c := .int .i64 R.2.2)) HSVT.out.lt).row.str; have sv4 : Sv w4 sb (.slice ao xs.length cap) n e := Sv.but HSVT.out hbut4 (by omega); have tt4 : Sv w4 w3.heap.size (.slice ao xs.length cap) n' R.2.2 := Sv.but HTb.out hbut4 (by omega); obtain ⟨s0, s1, s2, f0, f1, f2⟩ := sv4.cells; obtain ⟨t0, t1, t2, g0, g1, g2⟩ := tt4.cells))
              all_goals
                have hb04 : Below w.heap.size w w4 := HBT.out.trans (hbut4.below (by omega) HBT.out.size)
                generalize hwx : World.setCell _ _ _ = wX
                have HRDX : Rd wX rb (xs.drop n') R.2.2 := by rw [← hwx, HDR.out]; exact hrd4.above (store_below (by omega))
                have HSVX : Sv wX sb (.slice ao xs.length cap) n' R.2.2 := by rw [← hwx]; exact sv4.store
                have HBX : Below w.heap.size w wX := by rw [← hwx]; exact hb04.trans (store_below (by omega))
                clear hwx s0 s1 s2 f0 f1 f2 t0 t1 t2 g0 g1 g2 hrd4 hbut4 hbut4d sv4 tt4 hb04 HRDT HSVT HTb HBT HDR
                have hstX : St w rb sb (.slice ao xs.length cap) xs n' R.2.2 wX := ⟨HRDX, HSVX, HBX, HR.out.below HBX⟩
                go_wp2_with fail
                go_meet
                case rel => exact ⟨rfl, n', R.2.2, hnX, hstX⟩
            · by_cases h3 : kd = 3
              · subst h3
                have hRB : ∀ o, Calls Try.prog 21 #[.pointer (some ⟨rb, 0, none⟩), .int .i64 N] (wr.alloc o) fun x w' => x = .returned (.tuple #[]) ∧ Rd w' rb (xs.drop n) (failE e N) ∧ But rb (wr.alloc o) w' := fun o => Fail_any rb _ _ _ _ (HW0.out o).1
                have HRB : Hid _ := hRB
                clear hRB
                by_cases he : e = 0
                · subst he
                  clear s0 s1 s2 f0 f1 f2
                  go_wp2_with fail
                  refine (HRB.out _).mono ?_
                  rintro x w4 ⟨rfl, hrd4, hbut4⟩
                  have sv4 : Sv w4 sb (.slice ao xs.length cap) n 0 := (HW0.out _).2.1.but hbut4 (by omega)
                  obtain ⟨s0, s1, s2, f0, f1, f2⟩ := sv4.cells
                  have ho4 := op_but hbut4 (by omega)
                  have hb04 : Below w.heap.size w w4 := (HW0.out _).2.2.trans (hbut4.below (by omega) (HW0.out _).2.2.size)
                  have HK : Hid (Rd w4 rb (xs.drop n) (failE 0 N) ∧ Sv w4 sb (.slice ao xs.length cap) n 0 ∧ Below w.heap.size w w4) := ⟨hrd4, sv4, hb04⟩
                  clear hrd4 hbut4 sv4 hb04
                  go_wp2_with fail
                  go_meet
                  case rel =>
                    have hb5 : ∀ B u, B ≤ sb → Below B w4 (w4.setCell ⟨sb, 2, none⟩ u) := fun B u h => (Below.refl B w4).setCell (p := ⟨sb, 2, none⟩) h u
                    have hb6 := HK.out.2.2.trans (hb5 w.heap.size (.int .i64 N) (by omega))
                    exact ⟨rfl, n, N, hn, HK.out.1.above (hb5 _ _ (by omega)), HK.out.2.1.storeE, hb6, HR.out.below hb6⟩
                · have heb : (e == 0) = false := by simpa using he
                  have HFE : Hid (failE e N = e) := by show _ = _; rw [failE, if_neg he]
                  clear s0 s1 s2 f0 f1 f2
                  go_wp2_with fail
                  refine (HRB.out _).mono ?_
                  rw [HFE.out]
                  rintro x w4 ⟨rfl, hrd4, hbut4⟩
                  have sv4 : Sv w4 sb (.slice ao xs.length cap) n e := (HW0.out _).2.1.but hbut4 (by omega)
                  obtain ⟨s0, s1, s2, f0, f1, f2⟩ := sv4.cells
                  have hb04 : Below w.heap.size w w4 := (HW0.out _).2.2.trans (hbut4.below (by omega) (HW0.out _).2.2.size)
                  have HK : Hid (Rd w4 rb (xs.drop n) e ∧ Sv w4 sb (.slice ao xs.length cap) n e ∧ Below w.heap.size w w4) := ⟨hrd4, sv4, hb04⟩
                  clear hrd4 hbut4 sv4 hb04
                  go_wp2_with fail
                  go_meet
                  case rel => exact ⟨rfl, n, e, hn, HK.out.1, HK.out.2.1, HK.out.2.2, HR.out.below HK.out.2.2⟩
              · skip
                have hb0 : (kd == 0) = false := by simpa using h0
                have hb1 : (kd == 1) = false := by simpa using h1
                have hb2 : (kd == 2) = false := by simpa using h2
                have hb3 : (kd == 3) = false := by simpa using h3
                go_wp2_with fail
                go_meet
                case rel => exact ⟨rfl, n, e, hn, (HW0.out _).1, (HW0.out _).2.1, (HW0.out _).2.2, HR.out.below (HW0.out _).2.2⟩
      case rest =>
        obtain ⟨rfl, n', e', hnX, hstX⟩ := hcut
        have hll : ((xs.drop n').length : Int) = (xs.length : Int) - (n' : Int) := by rw [List.length_drop]; omega
        have hwr : IntKind.i64.wrap ((xs.length : Int) - (n' : Int)) = (xs.length : Int) - (n' : Int) := by simp [IntKind.wrap, IntKind.bits, IntKind.signed]; omega
        have HE : Hid (∀ w', St w rb sb (.slice ao xs.length cap) xs n' e' w' → Calls Try.prog 22 #[.pointer (some ⟨rb, 0, none⟩)] w' fun x w'' => x = .returned (.int .i64 e') ∧ w'' = w') := fun w' h => Err_any rb _ _ _ h.1
        have HL : Hid (∀ w', St w rb sb (.slice ao xs.length cap) xs n' e' w' → Calls Try.prog 23 #[.pointer (some ⟨rb, 0, none⟩)] w' fun x w'' => x = .returned (.int .i64 ((xs.drop n').length : Int)) ∧ w'' = w') := fun w' h => Left_any rb _ _ _ h.1
        have HEn : Hid (∀ w', St w rb sb (.slice ao xs.length cap) xs n' e' w' → Calls Try.prog 24 #[.pointer (some ⟨rb, 0, none⟩)] w' fun x w'' => x = .returned (.int .i64 (endE (xs.drop n').length e')) ∧ w'' = w') := fun w' h => End_same rb _ _ _ h.1
        have HRe : Hid (∀ w', St w rb sb (.slice ao xs.length cap) xs n' e' w' → Calls Try.prog 25 #[rv (.slice ao xs.length cap) n' e'] w' fun x w'' => x = .returned (.int .i64 (endE (xs.drop n').length e')) ∧ Below w'.heap.size w' w'') := fun w' h => refEnd_any _ _ xs n' e' w' h.2.2.2 hnX
        generalize endE (xs.drop n').length e' = en at HEn HRe
        generalize (xs.drop n').length = ll at hll HL
        have hSX := keepS hstX
        clear HRD HSV HW0 o0 o1 o2 s0 s1 s2 f0 f1 f2 HOps HX
        go_wp2_with fail
        go_region_held3 (fun w' => St w rb sb (.slice ao xs.length cap) xs n' e' w' ∧ w'.cell? ⟨sb, 0, none⟩ = some (.slice ao xs.length cap) ∧ w'.cell? ⟨sb, 1, none⟩ = some (.int .i64 (n' : Int)) ∧ w'.cell? ⟨sb, 2, none⟩ = some (.int .i64 e'))
          (first | exact keepS (St.drew hstX) | exact keepS (St.below (St.drew hstX) (by assumption)) | exact keepS hstX)
          (first
           | (go_at_call 22; refine (HE.out _ (by first | exact St.drew hstX | exact St.below (St.drew hstX) (by assumption) | exact hstX)).mono ?_; rintro x w5 ⟨rfl, hw5⟩; subst hw5)
           | (go_at_call 23; refine (HL.out _ (by first | exact St.drew hstX | exact St.below (St.drew hstX) (by assumption) | exact hstX)).mono ?_; rintro x w6 ⟨rfl, hw6⟩; subst hw6)
           | (go_at_call 24; refine (HEn.out _ (by first | exact St.drew hstX | exact St.below (St.drew hstX) (by assumption) | exact hstX)).mono ?_; rintro x w7 ⟨rfl, hw7⟩; subst hw7)
           | (go_at_call 25; refine (HRe.out _ (by first | exact St.drew hstX | exact St.below (St.drew hstX) (by assumption) | exact hstX)).mono ?_; rintro x w8 ⟨rfl, hb8⟩))
        all_goals go_wp2_with fail
        refine ⟨⟨k + 1, n', e', by omega, congrArg _ (by omega), hnX, ?_⟩, by simp [intOf]; omega⟩
        have hst8 := St.below (St.drew hstX) hb8
        exact ⟨hst8.1, hst8.2.1, hst8.2.2.1⟩
    · skip
      have hkk : k = L := by omega
      subst hkk
      clear HOps HRD HSV
      go_wp2_with fail
      go_ret
      exact ⟨rfl, hbel⟩
end Go.Proofs.Ytidnhldjnbpafaa
