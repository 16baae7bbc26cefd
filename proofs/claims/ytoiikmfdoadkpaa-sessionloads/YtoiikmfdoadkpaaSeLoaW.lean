/- SessionLoads. -/
import Derived.Test.YtoiikmfdoadkpaaSePlay
import Derived.Test.YtoiikmfdoadkpaaSeAlive
import Derived.Test.YtoiikmfdoadkpaaSeLoad2
namespace Go.Proofs.Ytoiikmfdoadkpaa
open Go.RowKit Go.Lib
set_option maxRecDepth 100000
namespace Se
theorem neqA0 (a : An) (w : World) : (binOp .neq 32 (valA a) (.agg #[.int .i64 0, .int .u64 0, .int .i64 0])).run Try.prog w = .ok (.bool (!(a.1 == 0 && a.2.1 == 0 && a.2.2 == 0))) w := by
  obtain ⟨a1, a2, a3⟩ := a
  unfold valA
  simp [go_sem]
  by_cases h1 : a1 = 0
  · by_cases h2 : a2 = 0
    · by_cases h3 : a3 = 0 <;> simp [h1, h2, h3]
    · simp [h1, h2]
  · simp [h1]
theorem neqR (x : Rw) (w : World) : (binOp .neq 43 (.agg #[.int .u64 x.1, .int .i64 x.2.1, .int .u64 x.2.2.1, .int .i64 x.2.2.2]) (.agg #[.int .u64 x.1, .int .i64 x.2.1, .int .u64 x.2.2.1, .int .i64 x.2.2.2])).run Try.prog w = .ok (.bool false) w := by
  simp [go_sem]
attribute [local go_sem ↓] exec_load_A exec_load_R exec_store_R
/-- So far wanted. -/
def wantB (l : List Rw) (k : Nat) : Bool := decide (l.length ≤ 4096) && !((l.take k).any badB)
theorem wantB_step {l : List Rw} {k : Nat} {x : Rw} (h : l[k]? = some x) : wantB l (k + 1) = (wantB l k && !(badB x)) := by
  unfold wantB
  rw [any_step h]
  cases decide (l.length ≤ 4096) <;> cases (l.take k).any badB <;> cases badB x <;> rfl
set_option maxHeartbeats 8000000 in
theorem loads_walk (v : Value) (w : World) (l : List Rw) (hR : GRow w.heap.size 4 w v (l.map cellsR)) (hl : l.length ≤ 4398046511104) : Calls Try.prog 4 #[v] w fun e w' => e = .returned (.bool true) ∧ Below w.heap.size w w' := by
  have HA := fun W => alive_any W
  have HLD := Load_any w.heap.size w l v hR hl
  obtain ⟨a0, c0, rfl⟩ := hR.shape
  obtain ⟨n, hn⟩ : ∃ n, l.length = n := ⟨_, rfl⟩
  have HN : Hid (l.length = n) := hn
  rw [List.length_map, hn] at hR HLD ⊢
  rw [hn] at hl
  have HR : Hid (GRow w.heap.size 4 w (.slice a0 n c0) (l.map cellsR)) := hR
  obtain ⟨r, hr⟩ : ∃ r, rightB l = r := ⟨_, rfl⟩
  have HRB : Hid (rightB l = r) := hr
  rw [hr] at HLD
  have hdec : decide ((n : Int) ≤ 4096) = decide (l.length ≤ 4096) := by rw [hn]; simp; omega
  have HW0 : Hid (Value.bool (decide ((n : Int) ≤ 4096)) = .bool (wantB l 0)) := by
    show _ = _
    rw [hdec]; unfold wantB; simp
  clear hR hn hr hdec
  cases r with
  | true =>
    have HLD2 : Calls Try.prog 13 #[.slice a0 n c0] w fun e w' => ∃ q v', e = .returned (.tuple #[.pointer (some ⟨q, 0, none⟩), .bool true]) ∧ Hid (TAt w.heap.size w' q v' l ∧ Below w.heap.size w w') := HLD.mono fun e w' h => by
      rcases h with ⟨_, q, v', h1, h2, h3⟩ | ⟨h, _⟩
      · exact ⟨q, v', h1, h2, h3⟩
      · cases h
    clear HLD
    go_enter Try.func4, Try.ntmps4
    go_wp2_with (go_at_call 13; go_loud (refine HLD2.mono ?_; rintro e w1 ⟨q, v1, rfl, HT⟩; clear HLD2))
    go_loopg [5, 7, 20] n (fun g s5 _ s20 wr => ∃ (k : Nat), s5 = .bool (wantB l k) ∧ s20 = .int .i64 k ∧ k ≤ n ∧ n - k ≤ g ∧ Hid (Below w1.heap.size w1 wr))
    case atStart => exact ⟨0, HW0.out, rfl, Nat.zero_le _, by omega, Below.refl _ _⟩
    case round =>
      obtain ⟨k, rfl, rfl, hk, hg, HB⟩ := hrel
      by_cases hlt : k < n
      · have hltz : (k : Int) < (n : Int) := by omega
        have HLT : Hid (k < n) := hlt
        obtain ⟨x, hx⟩ : ∃ x, l[k]? = some x := ⟨l[k]'(by have := HN.out; omega), List.getElem?_eq_getElem _⟩
        have HST : Hid (wantB l (k + 1) = (wantB l k && !(badB x))) := wantB_step hx
        have hBw : Below w.heap.size w wr := HT.out.2.trans (HB.out.mono HT.out.2.size)
        obtain ⟨g1, off, rfl, hg1, hc⟩ := grow_open (HR.out.below hBw) (by rw [List.length_map, HN.out]; omega)
        have hxm : (l.map cellsR)[k]? = some (cellsR x) := by rw [List.getElem?_map, hx]; rfl
        have hld : loadR Try.prog (.pointer (some ⟨g1, off + k * 4, none⟩)) wr = .ok (valR x) wr := loadR_at (fun j u hj => hc k j _ u hxm hj)
        obtain ⟨W1, hs1, hb1, hc1⟩ := new_storeR wr x
        have d0 : W1.cell? ⟨wr.heap.size, 0, none⟩ = some (.int .u64 x.1) := by simp [World.cell?, hc1, cellsR]
        have hla : loadA Try.prog (.pointer (some ⟨wr.heap.size, 1, none⟩)) W1 = .ok (valA x.2) W1 := loadA_at (fun j u hj => by
          have h := cat_new hc1 (1 + j) u (by
            match j, hj with
            | 0, hj => simpa [cellsR, cellsA] using hj
            | 1, hj => simpa [cellsR, cellsA] using hj
            | 2, hj => simpa [cellsR, cellsA] using hj
            | n + 3, hj => simp [cellsA] at hj)
          rwa [Nat.zero_add] at h)
        have HB2 : Hid (Below w1.heap.size w1 W1) := HB.out.trans (hb1.mono HB.out.size)
        have hneq := fun W => neqA0 x.2 W
        unfold valR zR at *
        unfold valA at hla hneq
        clear hc hxm hx hb1 hc1 hBw
        generalize wantB l k = b at *
        by_cases hx0 : x.1 = 0
        · have hbx : badB x = !(x.2.1 == 0 && x.2.2.1 == 0 && x.2.2.2 == 0) := by unfold badB; rw [decide_eq_true hx0]; rfl
          rw [← hbx] at hneq
          rw [hx0] at d0 hs1 hld
          cases hbb : badB x with
          | true =>
            rw [hbb] at hneq HST
            clear hbx
            go_wp2
            go_roundg (n - (k + 1))
            case measure => have := HLT.out; omega
            case rel => exact ⟨k + 1, by rw [HST.out]; simp, by go_num, HLT.out, Nat.le_refl _, HB2.out⟩
          | false =>
            rw [hbb] at hneq HST
            clear hbx
            go_wp2
            go_roundg (n - (k + 1))
            case measure => have := HLT.out; omega
            case rel => exact ⟨k + 1, by rw [HST.out]; simp, by go_num, HLT.out, Nat.le_refl _, HB2.out⟩
        · have hbx : badB x = false := by unfold badB; rw [decide_eq_false hx0]; rfl
          have hxq : (x.1 == 0) = false := by simpa using hx0
          rw [hbx] at HST
          clear hbx hx0
          go_wp2
          go_roundg (n - (k + 1))
          case measure => have := HLT.out; omega
          case rel => exact ⟨k + 1, by rw [HST.out]; simp, by go_num, HLT.out, Nat.le_refl _, HB2.out⟩
      · have hltz : ¬ (k : Int) < (n : Int) := by omega
        have hkn : k = n := by omega
        subst hkn
        have hwn : wantB l k = true := by
          have h := HRB.out
          unfold rightB at h
          unfold wantB
          rw [List.take_of_length_le (by have := HN.out; omega)]
          exact h
        rw [hwn]
        clear hwn
        have HEND : Hid (∀ w3, Below wr.heap.size wr w3 → TAt w.heap.size w3 q v1 l ∧ Below w.heap.size w w3) := fun w3 hb3 => by
          have h1 := HB.out.trans (hb3.mono HB.out.size)
          exact ⟨HT.out.1.below h1, HT.out.2.trans (h1.mono HT.out.2.size)⟩
        go_wp2_with (first
          | (go_at_call 10; go_loud (refine (HA _).mono ?_; rintro e w3 ⟨rfl, hb3⟩; have H3 : Hid (TAt w.heap.size w3 q v1 l ∧ Below w.heap.size w w3) := HEND.out w3 hb3; clear hb3 HEND))
          | (go_at_call 14; go_loud (refine (Rows_any _ _ _ _ _ H3.out.1 (by have := HN.out; omega)).mono ?_; rintro e w4 ⟨v4, rfl, hG4, hb4⟩; obtain ⟨a7, c7, hv7, _⟩ := hG4.shape; rw [List.length_map, HN.out] at hv7; subst hv7; have H4 : Hid (TAt w.heap.size w4 q v1 l ∧ Below w.heap.size w w4 ∧ GOwn 43 4 w3.heap.size w4 (.slice a7 k c7) (l.map cellsR)) := ⟨H3.out.1.below hb4, H3.out.2.trans (hb4.mono H3.out.2.size), hG4⟩; clear hG4 hb4))
          | (go_at_call 15; go_loud (refine (Len_any _ _ _ _ _ H4.out.1).mono ?_; rintro e w5 ⟨he, hw5⟩; replace hw5 := hw5.symm; subst hw5; rw [HN.out] at he; subst he)))
        go_loopg [9, 65] k (fun g _ s65 wr => ∃ (j : Nat), s65 = .int .i64 j ∧ j ≤ k ∧ k - j ≤ g ∧ Hid (Below w4.heap.size w4 wr))
        case atStart => exact ⟨0, rfl, Nat.zero_le _, by omega, Below.refl _ _⟩
        case round =>
          obtain ⟨j, rfl, hj, hgj, HB5⟩ := hrel
          by_cases hlt2 : j < k
          · have hltz2 : (j : Int) < (k : Int) := by omega
            have HLT2 : Hid (j < k) := hlt2
            obtain ⟨x, hx⟩ : ∃ x, l[j]? = some x := ⟨l[j]'(by have := HN.out; omega), List.getElem?_eq_getElem _⟩
            have hxm : (l.map cellsR)[j]? = some (cellsR x) := by rw [List.getElem?_map, hx]; rfl
            obtain ⟨V2, hV2⟩ : ∃ V2, wr.drew = V2 := ⟨_, rfl⟩
            have hb2 : Below w4.heap.size w4 V2 := by rw [← hV2]; exact HB5.out.drew
            obtain ⟨g1, off, rfl, hg1, hc⟩ := grow_open (HR.out.below (H4.out.2.1.trans (hb2.mono H4.out.2.1.size))) (by rw [List.length_map, HN.out]; omega)
            obtain ⟨g2, cap2, hv2, hg2, hB9, hcap9, hc2⟩ := (H4.out.2.2.below hb2).cell (by rw [List.length_map, HN.out]; omega)
            simp only [Value.slice.injEq] at hv2
            obtain ⟨rfl, hn9, hc9⟩ := hv2
            clear hn9 hc9 hB9 hcap9
            have hld : loadR Try.prog (.pointer (some ⟨g1, off + j * 4, none⟩)) V2 = .ok (valR x) V2 := loadR_at (fun i u hi => hc j i _ u hxm hi)
            have hld2 : loadR Try.prog (.pointer (some ⟨g2, j * 4, none⟩)) V2 = .ok (valR x) V2 := loadR_at (fun i u hi => hc2 j i _ u hxm hi)
            have HB6 : Hid (Below w4.heap.size w4 V2) := hb2
            have hneq := fun W => neqR x W
            unfold valR at hld hld2
            clear hc hc2 hxm hx hb2
            go_wp2
            refine region_at (S := fun W' => W' = V2) 9 rfl mixedP (by rw [hV2]) (fun _ => ?_)
            rw [hV2]
            have hSS : V2 = V2 := rfl
            refine take_at (i := 0) 68 rfl rfl (by kernel_rfl) (by kernel_rfl) (by kernel_rfl) (fun _ _ _ h => h) (by rfl) (fun w hSw => by (have hSw2 := Eq.symm hSw; clear hSw; go_simp; first | done | exact rfl)) (by assumption) ?_
            simp only [List.setIfInBounds_toArray, List.set_cons_zero, List.set_cons_succ]
            refine take_at (i := 1) 69 rfl rfl (by kernel_rfl) (by kernel_rfl) (by kernel_rfl) (fun _ _ _ h => h) (by rfl) (fun w hSw => by (have hSw2 := Eq.symm hSw; clear hSw; go_simp; first | done | exact rfl)) (by assumption) ?_
            simp only [List.setIfInBounds_toArray, List.set_cons_zero, List.set_cons_succ]
            refine take_at (i := 2) 70 rfl rfl (by kernel_rfl) (by kernel_rfl) (by kernel_rfl) (fun _ _ _ h => h) (by rfl) (fun w hSw => by (have hSw2 := Eq.symm hSw; clear hSw; go_simp; first | done | exact rfl)) (by assumption) ?_
            simp only [List.setIfInBounds_toArray, List.set_cons_zero, List.set_cons_succ]
            refine take_at (i := 4) 72 rfl rfl (by kernel_rfl) (by kernel_rfl) (by kernel_rfl) (fun _ _ _ h => h) (by rfl) (fun w hSw => by (have hSw2 := Eq.symm hSw; clear hSw; go_simp; first | done | exact rfl)) (by assumption) ?_
            simp only [List.setIfInBounds_toArray, List.set_cons_zero, List.set_cons_succ]
            refine take_at (i := 5) 73 rfl rfl (by kernel_rfl) (by kernel_rfl) (by kernel_rfl) (fun _ _ _ h => h) (by rfl) (fun w hSw => by (have hSw2 := Eq.symm hSw; clear hSw; go_simp; first | done | exact rfl)) (by assumption) ?_
            simp only [List.setIfInBounds_toArray, List.set_cons_zero, List.set_cons_succ]
            refine take_at (i := 6) 74 rfl rfl (by kernel_rfl) (by kernel_rfl) (by kernel_rfl) (fun _ _ _ h => h) (by rfl) (fun w hSw => by (have hSw2 := Eq.symm hSw; clear hSw; go_simp; first | done | exact rfl)) (by assumption) ?_
            simp only [List.setIfInBounds_toArray, List.set_cons_zero, List.set_cons_succ]
            refine take_at (i := 3) (v := .agg #[.int .u64 x.1, .int .i64 x.2.1, .int .u64 x.2.2.1, .int .i64 x.2.2.2]) 71 rfl rfl (by kernel_rfl) (by kernel_rfl) (by kernel_rfl) (fun _ _ _ h => h) (by rfl) (fun w hSw => by refine (exec_load_R _ _ _ _ _ _ _ _).trans ?_; show (loadR Try.prog (.pointer (some ⟨g1, off + j * 4, none⟩)) w).andThen _ = _; rw [hSw, hld]; rfl) (by assumption) ?_
            simp only [List.setIfInBounds_toArray, List.set_cons_zero, List.set_cons_succ]
            refine take_at (i := 7) (v := .agg #[.int .u64 x.1, .int .i64 x.2.1, .int .u64 x.2.2.1, .int .i64 x.2.2.2]) 75 rfl rfl (by kernel_rfl) (by kernel_rfl) (by kernel_rfl) (fun _ _ _ h => h) (by rfl) (fun w hSw => by refine (exec_load_R _ _ _ _ _ _ _ _).trans ?_; show (loadR Try.prog (.pointer (some ⟨g2, j * 4, none⟩)) w).andThen _ = _; rw [hSw, hld2]; rfl) (by assumption) ?_
            simp only [List.setIfInBounds_toArray, List.set_cons_zero, List.set_cons_succ]
            refine take_at (i := 8) (v := .bool false) 76 rfl rfl (by kernel_rfl) (by kernel_rfl) (by kernel_rfl) (fun _ _ _ h => h) (by rfl) (fun w hSw => by clear hSw; go_simp; first | done | exact rfl) (by assumption) ?_
            simp only [List.setIfInBounds_toArray, List.set_cons_zero, List.set_cons_succ]
            refine wpAnyH_done (by kernel_rfl) ?_ _
            go_wp2
            go_roundg (k - (j + 1))
            case measure => have := HLT2.out; omega
            case rel => exact ⟨j + 1, by go_num, HLT2.out, Nat.le_refl _, HB6.out⟩
          · have hltz2 : ¬ (j : Int) < (k : Int) := by omega
            go_wp2
            go_ret
            exact ⟨rfl, H4.out.2.1.trans (HB5.out.mono H4.out.2.1.size)⟩
  | false =>
    have HLD2 : Calls Try.prog 13 #[.slice a0 n c0] w fun e w' => e = .returned (.tuple #[.pointer none, .bool false]) ∧ Hid (Below w.heap.size w w') := HLD.mono fun e w' h => by
      rcases h with ⟨h, _⟩ | ⟨_, h1, h2⟩
      · cases h
      · exact ⟨h1, h2⟩
    clear HLD
    go_enter Try.func4, Try.ntmps4
    go_wp2_with (go_at_call 13; go_loud (refine HLD2.mono ?_; rintro e w1 ⟨rfl, HT⟩; clear HLD2))
    go_loopg [5, 7, 20] n (fun g s5 _ s20 wr => ∃ (k : Nat), s5 = .bool (wantB l k) ∧ s20 = .int .i64 k ∧ k ≤ n ∧ n - k ≤ g ∧ Hid (Below w1.heap.size w1 wr))
    case atStart => exact ⟨0, HW0.out, rfl, Nat.zero_le _, by omega, Below.refl _ _⟩
    case round =>
      obtain ⟨k, rfl, rfl, hk, hg, HB⟩ := hrel
      by_cases hlt : k < n
      · have hltz : (k : Int) < (n : Int) := by omega
        have HLT : Hid (k < n) := hlt
        obtain ⟨x, hx⟩ : ∃ x, l[k]? = some x := ⟨l[k]'(by have := HN.out; omega), List.getElem?_eq_getElem _⟩
        have HST : Hid (wantB l (k + 1) = (wantB l k && !(badB x))) := wantB_step hx
        have hBw : Below w.heap.size w wr := HT.out.trans (HB.out.mono HT.out.size)
        obtain ⟨g1, off, rfl, hg1, hc⟩ := grow_open (HR.out.below hBw) (by rw [List.length_map, HN.out]; omega)
        have hxm : (l.map cellsR)[k]? = some (cellsR x) := by rw [List.getElem?_map, hx]; rfl
        have hld : loadR Try.prog (.pointer (some ⟨g1, off + k * 4, none⟩)) wr = .ok (valR x) wr := loadR_at (fun j u hj => hc k j _ u hxm hj)
        obtain ⟨W1, hs1, hb1, hc1⟩ := new_storeR wr x
        have d0 : W1.cell? ⟨wr.heap.size, 0, none⟩ = some (.int .u64 x.1) := by simp [World.cell?, hc1, cellsR]
        have hla : loadA Try.prog (.pointer (some ⟨wr.heap.size, 1, none⟩)) W1 = .ok (valA x.2) W1 := loadA_at (fun j u hj => by
          have h := cat_new hc1 (1 + j) u (by
            match j, hj with
            | 0, hj => simpa [cellsR, cellsA] using hj
            | 1, hj => simpa [cellsR, cellsA] using hj
            | 2, hj => simpa [cellsR, cellsA] using hj
            | n + 3, hj => simp [cellsA] at hj)
          rwa [Nat.zero_add] at h)
        have HB2 : Hid (Below w1.heap.size w1 W1) := HB.out.trans (hb1.mono HB.out.size)
        have hneq := fun W => neqA0 x.2 W
        unfold valR zR at *
        unfold valA at hla hneq
        clear hc hxm hx hb1 hc1 hBw
        generalize wantB l k = b at *
        by_cases hx0 : x.1 = 0
        · have hbx : badB x = !(x.2.1 == 0 && x.2.2.1 == 0 && x.2.2.2 == 0) := by unfold badB; rw [decide_eq_true hx0]; rfl
          rw [← hbx] at hneq
          rw [hx0] at d0 hs1 hld
          cases hbb : badB x with
          | true =>
            rw [hbb] at hneq HST
            clear hbx
            go_wp2
            go_roundg (n - (k + 1))
            case measure => have := HLT.out; omega
            case rel => exact ⟨k + 1, by rw [HST.out]; simp, by go_num, HLT.out, Nat.le_refl _, HB2.out⟩
          | false =>
            rw [hbb] at hneq HST
            clear hbx
            go_wp2
            go_roundg (n - (k + 1))
            case measure => have := HLT.out; omega
            case rel => exact ⟨k + 1, by rw [HST.out]; simp, by go_num, HLT.out, Nat.le_refl _, HB2.out⟩
        · have hbx : badB x = false := by unfold badB; rw [decide_eq_false hx0]; rfl
          have hxq : (x.1 == 0) = false := by simpa using hx0
          rw [hbx] at HST
          clear hbx hx0
          go_wp2
          go_roundg (n - (k + 1))
          case measure => have := HLT.out; omega
          case rel => exact ⟨k + 1, by rw [HST.out]; simp, by go_num, HLT.out, Nat.le_refl _, HB2.out⟩
      · have hltz : ¬ (k : Int) < (n : Int) := by omega
        have hkn : k = n := by omega
        subst hkn
        have hwn : wantB l k = false := by
          have h := HRB.out
          unfold rightB at h
          unfold wantB
          rw [List.take_of_length_le (by have := HN.out; omega)]
          exact h
        rw [hwn]
        clear hwn
        go_wp2_with (go_at_call 10; go_loud (refine (HA _).mono ?_; rintro e w3 ⟨rfl, hb3⟩; have H3 : Hid (Below w.heap.size w w3) := (HT.out.trans (HB.out.mono HT.out.size)).trans (hb3.mono (by have := HT.out.size; have := HB.out.size; omega)); clear hb3))
        go_ret
        exact ⟨rfl, H3.out⟩
end Se
end Go.Proofs.Ytoiikmfdoadkpaa
