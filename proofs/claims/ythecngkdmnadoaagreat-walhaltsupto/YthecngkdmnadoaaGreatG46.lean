/- Texts that were written apart, joined. -/
import Derived.Test.YthecngkdmnadoaaGreatG45
/- The reference's Fits. -/
namespace Go.Proofs.YthecngkdmnadoaaGreat
open Go.RowKit
set_option maxRecDepth 100000

/-- A row of strings that is read. -/
def StrsR (w : World) (v : Value) (l : List (List Nat)) : Prop :=
  ∃ ao cap, v = .slice ao l.length cap ∧ l.length ≤ cap ∧ (0 < l.length → ∃ b off, ao = some ⟨b, off, none⟩ ∧ b < w.heap.size ∧ ∀ (i : Nat) (x : List Nat), l[i]? = some x → w.cell? ⟨b, off + i, none⟩ = some (.string (strB x)))
theorem StrsR.below {w w' : World} {v : Value} {l : List (List Nat)} (h : StrsR w v l) (hb : Below w.heap.size w w') : StrsR w' v l := by
  obtain ⟨ao, cap, e, h1, h2⟩ := h
  refine ⟨ao, cap, e, h1, fun h0 => ?_⟩
  obtain ⟨b, off, h3, h4, h5⟩ := h2 h0
  exact ⟨b, off, h3, Nat.lt_of_lt_of_le h4 hb.size, fun i x hi => (hb.cell (p := ⟨b, off + i, none⟩) h4).trans (h5 i x hi)⟩
theorem StrOwn.read {B : Nat} {w : World} {v : Value} {l : List (List Nat)} (h : StrOwn B w v l) : StrsR w v l := by
  cases l with
  | nil =>
    obtain ⟨ao, cap, e⟩ := h.shape
    exact ⟨ao, cap, e, Nat.zero_le _, fun h0 => by simp at h0⟩
  | cons y r =>
    obtain ⟨g, cap, e, _, h2, h3, h4⟩ := h.cell (i := 0) rfl
    exact ⟨_, cap, e, h3, fun _ => ⟨g, 0, rfl, h2, fun i x hi => by rw [Nat.zero_add]; exact h4 i x hi⟩⟩
/-- Could a log that begins at f, with these records, be found where another one was? -/
def FitsP (f : Nat) (l : List (List Nat)) (F : Nat) (R : List (List Nat)) : Prop := f ≤ F ∧ l.length = F - f + R.length ∧ ∀ (i : Nat) (x : List Nat), R[i]? = some x → l[F - f + i]? = some x
theorem FitsP.self (f : Nat) (l : List (List Nat)) : FitsP f l f l := ⟨Nat.le_refl _, by omega, fun i x h => by rw [Nat.sub_self, Nat.zero_add]; exact h⟩
def FitsSays (w : World) (f : Nat) (l : List (List Nat)) (F : Nat) (R : List (List Nat)) (e : Ending) (w' : World) : Prop := Below w.heap.size w w' ∧ ∃ t : Bool, e = .returned (.bool t) ∧ (FitsP f l F R → t = true)
set_option maxHeartbeats 4000000 in
theorem Fits_any (w : World) (f F : Nat) (l R : List (List Nat)) (lv Rv : Value) (hl : StrsR w lv l) (hR : StrsR w Rv R) (hf : f < 1099511627776) (hF : F < 1099511627776) (hll : l.length < 1099511627776) (hRl : R.length < 1099511627776) :
    Calls Tryz.prog 17 #[.int .u64 (f : Int), lv, .agg #[.int .u64 (F : Int), Rv]] w (FitsSays w f l F R) := by
  obtain ⟨la, lc, rfl, hlc, hlcell⟩ := hl
  obtain ⟨Ra, Rc, rfl, hRc, hRcell⟩ := hR
  have HL : Hid _ := hlcell
  have HR : Hid _ := hRcell
  have HBn : Hid (∀ ob, Below w.heap.size w (w.alloc ob)) := fun ob => (Below.refl _ w).alloc (Nat.le_refl _) _
  obtain ⟨n, hn⟩ : ∃ n, l.length = n := ⟨_, rfl⟩
  obtain ⟨m, hm⟩ : ∃ m, R.length = m := ⟨_, rfl⟩
  have HN : Hid (l.length = n ∧ R.length = m) := ⟨hn, hm⟩
  rw [hn] at hll hlc ⊢
  rw [hm] at hRl hRc ⊢
  clear hlcell hRcell hn hm
  by_cases h1 : F < f
  · have h1' : (F : Int) < (f : Int) := by omega
    have HE : Hid (FitsP f l F R → false = true) := fun h => absurd h.1 (by omega)
    clear h1
    go_enter Tryz.func17, Tryz.ntmps17
    go_wp2_with fail
    go_ret
    exact ⟨HBn.out _, false, rfl, HE.out⟩
  · have h1' : ¬ (F : Int) < (f : Int) := by omega
    obtain ⟨d, hd⟩ : ∃ d, F - f = d := ⟨_, rfl⟩
    have hd' : (F : Int) - (f : Int) = (d : Int) := by omega
    have hdl : d < 1099511627776 := by omega
    by_cases h2 : n = d + m
    · have h2' : (n : Int) = (d : Int) + (m : Int) := by omega
      go_enter Tryz.func17, Tryz.ntmps17
      go_wp2_with fail
      obtain ⟨W, hW⟩ : ∃ W, w.alloc (.cells #[.int .u64 (F : Int), .slice Ra m Rc] 33) = W := ⟨_, rfl⟩
      have hws : w.heap.size < W.heap.size := by rw [← hW]; simp
      have g0 : W.cell? ⟨w.heap.size, 0, none⟩ = some (.int .u64 (F : Int)) := by rw [← hW]; simp
      have g1 : W.cell? ⟨w.heap.size, 1, none⟩ = some (.slice Ra m Rc) := by rw [← hW]; simp
      have HW : Hid (Below w.heap.size w W) := by show Below _ _ _; rw [← hW]; exact HBn.out _
      rw [hW]
      clear hW
      go_loopw [8] (fun t8 wr => ∃ (j k : Nat), t8 = .int .i64 j ∧ j ≤ m ∧ wr = W.drewN k) (fun t8 _ => m - (intOf t8).toNat)
      case atStart => exact ⟨0, 0, rfl, Nat.zero_le _, rfl⟩
      case round =>
        obtain ⟨j, k, rfl, hj, rfl⟩ := hrel
        by_cases hlt : j < m
        · have hlt' : (j : Int) < (m : Int) := by omega
          obtain ⟨b1, o1, rfl, hb1, hc1⟩ := HR.out (by rw [HN.out.2]; omega)
          obtain ⟨b2, o2, rfl, hb2, hc2⟩ := HL.out (by rw [HN.out.1]; omega)
          obtain ⟨x, hx⟩ : ∃ x, R[j]? = some x := ⟨_, List.getElem?_eq_getElem (by rw [HN.out.2]; exact hlt)⟩
          obtain ⟨y, hy⟩ : ∃ y, l[d + j]? = some y := ⟨_, List.getElem?_eq_getElem (by rw [HN.out.1]; omega)⟩
          have hdj : (d : Int) + (j : Int) < (n : Int) := by omega
          have d1 := (HW.out.cell (p := ⟨b1, o1 + j, none⟩) hb1).trans (hc1 j x hx)
          have d2 := (HW.out.cell (p := ⟨b2, o2 + (d + j), none⟩) hb2).trans (hc2 (d + j) y hy)
          obtain ⟨dj, hdj2⟩ : ∃ dj, d + j = dj := ⟨_, rfl⟩
          have hdj3 : (d : Int) + (j : Int) = (dj : Int) := by omega
          rw [hdj2] at d2
          have hdjn : (dj : Int) < (n : Int) := by omega
          by_cases he : (strB y).toList = (strB x).toList
          · have he2 : ((strB y).toList == (strB x).toList) = true := beq_iff_eq.2 he
            clear hc1 hc2 hx hy hdj hdj2 he
            go_wp2_with fail
            go_quiet (fail)
            go_wp2_with fail
            go_roundw
            case rel => exact ⟨j + 1, _, by go_num, by omega, rfl⟩
            case measure => simp [intOf]; omega
          · have HE : Hid (FitsP f l F R → false = true) := fun h => absurd (by have := h.2.2 j x hx; rw [hd, hy] at this; simp only [Option.some.injEq] at this; rw [this]) he
            have he2 : ((strB y).toList == (strB x).toList) = false := beq_eq_false_iff_ne.2 he
            clear hc1 hc2 hx hy hdj hdj2 he
            go_wp2_with fail
            go_quiet (fail)
            go_wp2_with fail
            go_ret
            exact ⟨below_drewN (below_drewN HW.out _) _, false, rfl, HE.out⟩
        · have hlt' : ¬ (j : Int) < (m : Int) := by omega
          go_wp2_with fail
          go_ret
          exact ⟨below_drewN HW.out _, true, rfl, fun _ => rfl⟩
    · have h2' : ¬ (n : Int) = (d : Int) + (m : Int) := by omega
      have HE : Hid (FitsP f l F R → false = true) := fun h => absurd h.2.1 (by rw [HN.out.1, HN.out.2]; omega)
      clear h1 h2
      go_enter Tryz.func17, Tryz.ntmps17
      go_wp2_with fail
      go_ret
      exact ⟨HBn.out _, false, rfl, HE.out⟩
end Go.Proofs.YthecngkdmnadoaaGreat

/- The law's same. -/
namespace Go.Proofs.YthecngkdmnadoaaGreat
open Go.RowKit
set_option maxRecDepth 100000

/-- What same reads of what it holds. -/
structure SSm (q fi : Nat) (Ra : Option Addr) (n Rc : Nat) (W : World) : Prop where
  c0 : W.cell? ⟨q, 0, none⟩ = some (.int .u64 (fi : Int))
  c1 : W.cell? ⟨q, 1, none⟩ = some (.slice Ra n Rc)
theorem SSm.facts {q fi : Nat} {Ra : Option Addr} {n Rc : Nat} {W : World} (h : SSm q fi Ra n Rc W) : W.cell? ⟨q, 0, none⟩ = some (.int .u64 (fi : Int)) ∧ W.cell? ⟨q, 1, none⟩ = some (.slice Ra n Rc) := ⟨h.c0, h.c1⟩
theorem SSm.below {q fi : Nat} {Ra : Option Addr} {n Rc : Nat} {W W' : World} (h : SSm q fi Ra n Rc W) (hb : Below W.heap.size W W') (hq : q < W.heap.size) : SSm q fi Ra n Rc W' := ⟨(hb.cell (p := ⟨q, 0, none⟩) hq).trans h.c0, (hb.cell (p := ⟨q, 1, none⟩) hq).trans h.c1⟩
def SameSays (w : World) (e : Ending) (w' : World) : Prop := e = .returned (.bool true) ∧ Below w.heap.size w w'
set_option maxHeartbeats 4000000 in
theorem same5_any (W0 : World) (N b p : Nat) (g : LG) (v : WV) (fp : List Nat) (s : List Sv) (w : World) (Rv : Value) (h : Since W0 N w b p g v fp s) (hR : StrsR w Rv g.L) (hs : g.first + g.L.length < 1099511627776) (hx : ∀ xs ∈ g.L, xs.length ≤ 140737488355328) :
    Calls Tryz.prog 20 #[.pointer (some ⟨b, 0, none⟩), .agg #[.int .u64 (g.first : Int), Rv]] w (SameSays w) := by
  obtain ⟨la, hlb, hla, hla0, hla1, hlast⟩ := lastz_is (W0 := W0) (N := N) (b := b) (p := p) (g := g) (v := v) (fp := fp) (s := s) (by omega)
  have HLA : Hid (∀ W, Since W0 N W b p g v fp s → Calls Tryz.prog 30 #[.pointer (some ⟨b, 0, none⟩)] W fun e w' => e = .returned (.int .u64 la) ∧ ∃ k, w' = W.drewN k) := hlast
  have HS : Hid (Since W0 N w b p g v fp s) := h
  have HR : Hid (StrsR w Rv g.L) := hR
  have HAL : Hid (∀ W, Since W0 N W b p g v fp s → Calls Tryz.prog 18 #[.pointer (some ⟨b, 0, none⟩)] W fun e w' => Below W.heap.size W w' ∧ ∃ sv, e = .returned sv ∧ StrOwn W.heap.size w' sv g.L) := fun W hW => all5_any W0 N b p g v fp s W hW hs hx
  have HGT : Hid (∀ W (z : Int), 0 ≤ z → (z < g.first ∨ ((g.first + g.L.length : Nat) : Int) ≤ z) → Since W0 N W b p g v fp s → Calls Tryz.prog 36 #[.pointer (some ⟨b, 0, none⟩), .int .u64 z] W fun e w' => Below W.heap.size W w' ∧ e = .returned (.tuple #[.slice none 0 0, .bool false])) := by
    intro W z h0 hz hW
    obtain ⟨i, rfl⟩ : ∃ i : Nat, z = (i : Int) := ⟨z.toNat, by omega⟩
    have h1 : g.n.first = g.first := rfl
    have h2 : g.n.many = g.L.length := rfl
    refine (Get_any W b g.n v g.L i hW.log.wal hW.log.recsAt rfl (by omega) (by omega) hx).mono ?_
    rintro e w' ⟨hb, ⟨_, h3⟩ | ⟨xs, rv, h3, _⟩⟩
    · exact ⟨hb, h3⟩
    · omega
  have HFT : Hid (∀ W lv, StrsR W lv g.L → StrsR W Rv g.L → Calls Tryz.prog 17 #[.int .u64 (g.first : Int), lv, .agg #[.int .u64 (g.first : Int), Rv]] W fun e w' => Below W.heap.size W w' ∧ e = .returned (.bool true)) := fun W lv h1 h2 =>
    (Fits_any W g.first g.first g.L g.L lv Rv h1 h2 (by omega) (by omega) (by omega) (by omega)).mono (fun e w' ⟨h3, t, h4, h5⟩ => ⟨h3, by rw [h4, h5 (FitsP.self _ _)]⟩)
  have HFI : Hid (∀ W, Since W0 N W b p g v fp s → Calls Tryz.prog 16 #[.pointer (some ⟨b, 0, none⟩)] W fun e w' => e = .returned (.int .u64 (g.first : Int)) ∧ w' = W) := fun W hW => first_since hW _ rfl
  obtain ⟨Ra, Rc, rfl, -, -⟩ := hR
  obtain ⟨fi, hfi⟩ : ∃ fi, g.first = fi := ⟨_, rfl⟩
  obtain ⟨n, hn⟩ : ∃ n, g.L.length = n := ⟨_, rfl⟩
  obtain ⟨m, hm⟩ : ∃ m, fi + n = m := ⟨_, rfl⟩
  rw [hn] at HR HFT
  rw [hfi, hn, hm] at hla hlb hs
  rw [hfi, hn, hm] at HGT
  rw [hfi] at HFT HFI
  rw [hfi, hn]
  obtain ⟨fm, hfm, hfm0, hfm1⟩ : ∃ fm, IntKind.u64.wrap ((fi : Int) - 1) = fm ∧ 0 ≤ fm ∧ (fm < (fi : Int) ∨ (m : Int) ≤ fm) := by
    refine ⟨_, rfl, ?_, ?_⟩
    all_goals
      simp only [IntKind.wrap, IntKind.bits, IntKind.signed]
      simp
      omega
  have HFM : Hid (0 ≤ fm ∧ (fm < (fi : Int) ∨ (m : Int) ≤ fm)) := ⟨hfm0, hfm1⟩
  have HBn : Hid (∀ ob, Below w.heap.size w (w.alloc ob)) := fun ob => (Below.refl _ w).alloc (Nat.le_refl _) _
  clear h hx hfi hn hlast hla0 hla1 hfm0 hfm1
  go_enter Tryz.func20, Tryz.ntmps20
  go_wp2_with fail
  obtain ⟨W, hW⟩ : ∃ W, w.alloc (.cells #[.int .u64 (fi : Int), .slice Ra n Rc] 33) = W := ⟨_, rfl⟩
  have hws : w.heap.size < W.heap.size := by rw [← hW]; simp
  have g0 : W.cell? ⟨w.heap.size, 0, none⟩ = some (.int .u64 (fi : Int)) := by rw [← hW]; simp
  have g1 : W.cell? ⟨w.heap.size, 1, none⟩ = some (.slice Ra n Rc) := by rw [← hW]; simp
  have HW : Hid (Below w.heap.size w W) := by show Below _ _ _; rw [← hW]; exact HBn.out _
  rw [hW]
  clear hW
  refine (HFI.out _ (HS.out.on HW.out)).mono ?_
  rintro e w1 ⟨rfl, rfl⟩
  go_wp2_with fail
  refine (HGT.out _ fm HFM.out.1 HFM.out.2 (HS.out.on HW.out)).mono ?_
  rintro e w2 ⟨hb2, rfl⟩
  have HW2 : Hid (Below w.heap.size w w2) := HW.out.trans (hb2.mono HW.out.size)
  have k0 := (hb2.cell (p := ⟨w.heap.size, 0, none⟩) hws).trans g0
  have k1 := (hb2.cell (p := ⟨w.heap.size, 1, none⟩) hws).trans g1
  have hws2 : w.heap.size < w2.heap.size := Nat.lt_of_lt_of_le hws hb2.size
  clear hb2 g0 g1 hws
  go_wp2_with fail
  refine (HLA.out _ (HS.out.on HW2.out)).mono ?_
  rintro e w3 ⟨rfl, kk, rfl⟩
  go_wp2_with fail
  refine (HGT.out _ (m : Int) (by omega) (.inr (Int.le_refl _)) (HS.out.on (below_drewN HW2.out _))).mono ?_
  rintro e w4 ⟨hb4, rfl⟩
  have HW4 : Hid (Below w.heap.size w w4) := (below_drewN HW2.out kk).trans (hb4.mono (below_drewN HW2.out kk).size)
  have g0 := (hb4.cell (p := ⟨w.heap.size, 0, none⟩) hws2).trans k0
  have g1 := (hb4.cell (p := ⟨w.heap.size, 1, none⟩) hws2).trans k1
  have hws4 : w.heap.size < w4.heap.size := Nat.lt_of_lt_of_le hws2 hb4.size
  clear hb4 k0 k1 hws2
  go_wp2_with fail
  have hw1 : IntKind.u64.wrap ((fi : Int) + (n : Int)) = (m : Int) := by
    have : (fi : Int) + (n : Int) = (m : Int) := by omega
    rw [this]
    simp only [IntKind.wrap, IntKind.bits, IntKind.signed]
    simp
    omega
  have hw0 : IntKind.u64.wrap (n : Int) = (n : Int) := by
    simp only [IntKind.wrap, IntKind.bits, IntKind.signed]
    simp
    omega
  have HQ : Hid (w.heap.size < w4.drew.heap.size ∧ Below w.heap.size w w4.drew) := ⟨hws4, HW4.out.drew⟩
  have hS4 : SSm w.heap.size fi Ra n Rc w4.drew := ⟨g0, g1⟩
  clear g0 g1 hws4 hla hfm
  refine region_at (S := SSm w.heap.size fi Ra n Rc) 35 rfl (by kernel_rfl) hS4 (fun hHeld => ?_)
  refine take_at (i := 0) 25 rfl rfl (by kernel_rfl) (by kernel_rfl) (by kernel_rfl) (fun _ _ _ h => h) (by rfl) (fun w hSw => by (have hSw2 := SSm.facts hSw; clear hSw; go_simp; first | done | exact rfl)) (by assumption) ?_
  simp only [List.setIfInBounds_toArray, List.set_cons_zero, List.set_cons_succ]
  refine take_at (i := 2) 27 rfl rfl (by kernel_rfl) (by kernel_rfl) (by kernel_rfl) (fun _ _ _ h => h) (by rfl) (fun w hSw => by (have hSw2 := SSm.facts hSw; clear hSw; go_simp; first | done | exact rfl)) (by assumption) ?_
  simp only [List.setIfInBounds_toArray, List.set_cons_zero, List.set_cons_succ]
  refine take_at (i := 3) 28 rfl rfl (by kernel_rfl) (by kernel_rfl) (by kernel_rfl) (fun _ _ _ h => h) (by rfl) (fun w hSw => by (have hSw2 := SSm.facts hSw; clear hSw; go_simp; first | done | exact rfl)) (by assumption) ?_
  simp only [List.setIfInBounds_toArray, List.set_cons_zero, List.set_cons_succ]
  refine one_call (i := 1) (w0 := w4.drew) 26 16 #[.pointer (some ⟨b, 0, none⟩)] (by kernel_rfl) rfl rfl (by rfl) (by kernel_rfl) ?_
  refine (HFI.out _ (HS.out.on HQ.out.2)).mono ?_
  rintro e w5 ⟨rfl, rfl⟩
  refine ⟨_, rfl, hS4, fun hHeld1 => ?_⟩
  simp only [List.setIfInBounds_toArray, List.set_cons_zero, List.set_cons_succ]
  refine take_at (i := 4) (v := .bool true) 29 rfl rfl (by kernel_rfl) (by kernel_rfl) (by kernel_rfl) (fun _ _ _ h => h) (by rfl) (fun w hSw => by (have hSw2 := SSm.facts hSw; clear hSw; go_simp; first | done | exact rfl | simp_all | (simp; omega))) (by assumption) ?_
  simp only [List.setIfInBounds_toArray, List.set_cons_zero, List.set_cons_succ]
  refine take_at (i := 5) 30 rfl rfl (by kernel_rfl) (by kernel_rfl) (by kernel_rfl) (fun _ _ _ h => h) (by rfl) (fun w hSw => by (have hSw2 := SSm.facts hSw; clear hSw; go_simp; first | done | exact rfl)) (by assumption) ?_
  simp only [List.setIfInBounds_toArray, List.set_cons_zero, List.set_cons_succ]
  refine take_at (i := 6) 31 rfl rfl (by kernel_rfl) (by kernel_rfl) (by kernel_rfl) (fun _ _ _ h => h) (by rfl) (fun w hSw => by (have hSw2 := SSm.facts hSw; clear hSw; go_simp; first | done | exact rfl)) (by assumption) ?_
  simp only [List.setIfInBounds_toArray, List.set_cons_zero, List.set_cons_succ]
  refine take_at (i := 8) 33 rfl rfl (by kernel_rfl) (by kernel_rfl) (by kernel_rfl) (fun _ _ _ h => h) (by rfl) (fun w hSw => by (have hSw2 := SSm.facts hSw; clear hSw; go_simp; first | done | exact rfl)) (by assumption) ?_
  simp only [List.setIfInBounds_toArray, List.set_cons_zero, List.set_cons_succ]
  refine take_at (i := 9) 34 rfl rfl (by kernel_rfl) (by kernel_rfl) (by kernel_rfl) (fun _ _ _ h => h) (by rfl) (fun w hSw => by (have hSw2 := SSm.facts hSw; clear hSw; go_simp; first | done | exact rfl)) (by assumption) ?_
  simp only [List.setIfInBounds_toArray, List.set_cons_zero, List.set_cons_succ]
  refine take_at (i := 10) 35 rfl rfl (by kernel_rfl) (by kernel_rfl) (by kernel_rfl) (fun _ _ _ h => h) (by rfl) (fun w hSw => by (have hSw2 := SSm.facts hSw; clear hSw; go_simp; first | done | exact rfl)) (by assumption) ?_
  simp only [List.setIfInBounds_toArray, List.set_cons_zero, List.set_cons_succ]
  refine take_at (i := 11) 36 rfl rfl (by kernel_rfl) (by kernel_rfl) (by kernel_rfl) (fun _ _ _ h => h) (by rfl) (fun w hSw => by (have hSw2 := SSm.facts hSw; clear hSw; go_simp; first | done | exact rfl)) (by assumption) ?_
  simp only [List.setIfInBounds_toArray, List.set_cons_zero, List.set_cons_succ]
  refine take_at (i := 12) 37 rfl rfl (by kernel_rfl) (by kernel_rfl) (by kernel_rfl) (fun _ _ _ h => h) (by rfl) (fun w hSw => by (have hSw2 := SSm.facts hSw; clear hSw; go_simp; first | done | exact rfl)) (by assumption) ?_
  simp only [List.setIfInBounds_toArray, List.set_cons_zero, List.set_cons_succ]
  refine take_at (i := 13) 38 rfl rfl (by kernel_rfl) (by kernel_rfl) (by kernel_rfl) (fun _ _ _ h => h) (by rfl) (fun w hSw => by (have hSw2 := SSm.facts hSw; clear hSw; go_simp; first | done | exact rfl)) (by assumption) ?_
  simp only [List.setIfInBounds_toArray, List.set_cons_zero, List.set_cons_succ]
  refine take_at (i := 14) 39 rfl rfl (by kernel_rfl) (by kernel_rfl) (by kernel_rfl) (fun _ _ _ h => h) (by rfl) (fun w hSw => by (have hSw2 := SSm.facts hSw; clear hSw; go_simp; first | done | exact rfl)) (by assumption) ?_
  simp only [List.setIfInBounds_toArray, List.set_cons_zero, List.set_cons_succ]
  refine take_at (i := 15) (v := .int .u64 la) 40 rfl rfl (by kernel_rfl) (by kernel_rfl) (by kernel_rfl) (fun _ _ _ h => h) (by rfl) (fun w hSw => by (have hSw2 := SSm.facts hSw; clear hSw; go_simp; first | done | exact rfl | simp_all | (simp; omega))) (by assumption) ?_
  simp only [List.setIfInBounds_toArray, List.set_cons_zero, List.set_cons_succ]
  refine one_call (i := 7) (w0 := w4.drew) 32 30 #[.pointer (some ⟨b, 0, none⟩)] (by kernel_rfl) rfl rfl (by rfl) (by kernel_rfl) ?_
  refine (HLA.out _ (HS.out.on HQ.out.2)).mono ?_
  rintro e w5 ⟨rfl, k5, rfl⟩
  have hS5 : SSm w.heap.size fi Ra n Rc (w4.drew.drewN k5) := hS4.below (below_drewN (Below.refl _ _) k5) HQ.out.1
  refine ⟨_, rfl, hS5, fun hHeld2 => ?_⟩
  simp only [List.setIfInBounds_toArray, List.set_cons_zero, List.set_cons_succ]
  refine take_at (i := 16) (v := .bool true) 41 rfl rfl (by kernel_rfl) (by kernel_rfl) (by kernel_rfl) (fun _ _ _ h => h) (by rfl) (fun w hSw => by (have hSw2 := SSm.facts hSw; clear hSw; go_simp; first | done | exact rfl | simp_all | (simp; omega))) (by assumption) ?_
  simp only [List.setIfInBounds_toArray, List.set_cons_zero, List.set_cons_succ]
  refine take_at (i := 17) (v := .bool true) 42 rfl rfl (by kernel_rfl) (by kernel_rfl) (by kernel_rfl) (fun _ _ _ h => h) (by rfl) (fun w hSw => by (have hSw2 := SSm.facts hSw; clear hSw; go_simp; first | done | exact rfl | simp_all | (simp; omega))) (by assumption) ?_
  simp only [List.setIfInBounds_toArray, List.set_cons_zero, List.set_cons_succ]
  refine take_at (i := 18) 43 rfl rfl (by kernel_rfl) (by kernel_rfl) (by kernel_rfl) (fun _ _ _ h => h) (by rfl) (fun w hSw => by (have hSw2 := SSm.facts hSw; clear hSw; go_simp; first | done | exact rfl)) (by assumption) ?_
  simp only [List.setIfInBounds_toArray, List.set_cons_zero, List.set_cons_succ]
  refine take_at (i := 19) 44 rfl rfl (by kernel_rfl) (by kernel_rfl) (by kernel_rfl) (fun _ _ _ h => h) (by rfl) (fun w hSw => by (have hSw2 := SSm.facts hSw; clear hSw; go_simp; first | done | exact rfl)) (by assumption) ?_
  simp only [List.setIfInBounds_toArray, List.set_cons_zero, List.set_cons_succ]
  refine take_at (i := 20) 45 rfl rfl (by kernel_rfl) (by kernel_rfl) (by kernel_rfl) (fun _ _ _ h => h) (by rfl) (fun w hSw => by (have hSw2 := SSm.facts hSw; clear hSw; go_simp; first | done | exact rfl)) (by assumption) ?_
  simp only [List.setIfInBounds_toArray, List.set_cons_zero, List.set_cons_succ]
  refine take_at (i := 21) 46 rfl rfl (by kernel_rfl) (by kernel_rfl) (by kernel_rfl) (fun _ _ _ h => h) (by rfl) (fun w hSw => by (have hSw2 := SSm.facts hSw; clear hSw; go_simp; first | done | exact rfl)) (by assumption) ?_
  simp only [List.setIfInBounds_toArray, List.set_cons_zero, List.set_cons_succ]
  refine take_at (i := 22) 47 rfl rfl (by kernel_rfl) (by kernel_rfl) (by kernel_rfl) (fun _ _ _ h => h) (by rfl) (fun w hSw => by (have hSw2 := SSm.facts hSw; clear hSw; go_simp; first | done | exact rfl)) (by assumption) ?_
  simp only [List.setIfInBounds_toArray, List.set_cons_zero, List.set_cons_succ]
  refine take_at (i := 23) 48 rfl rfl (by kernel_rfl) (by kernel_rfl) (by kernel_rfl) (fun _ _ _ h => h) (by rfl) (fun w hSw => by (have hSw2 := SSm.facts hSw; clear hSw; go_simp; first | done | exact rfl)) (by assumption) ?_
  simp only [List.setIfInBounds_toArray, List.set_cons_zero, List.set_cons_succ]
  refine take_at (i := 24) 49 rfl rfl (by kernel_rfl) (by kernel_rfl) (by kernel_rfl) (fun _ _ _ h => h) (by rfl) (fun w hSw => by (have hSw2 := SSm.facts hSw; clear hSw; go_simp; first | done | exact rfl)) (by assumption) ?_
  simp only [List.setIfInBounds_toArray, List.set_cons_zero, List.set_cons_succ]
  refine take_at (i := 25) 50 rfl rfl (by kernel_rfl) (by kernel_rfl) (by kernel_rfl) (fun _ _ _ h => h) (by rfl) (fun w hSw => by (have hSw2 := SSm.facts hSw; clear hSw; go_simp; first | done | exact rfl)) (by assumption) ?_
  simp only [List.setIfInBounds_toArray, List.set_cons_zero, List.set_cons_succ]
  refine take_at (i := 26) 51 rfl rfl (by kernel_rfl) (by kernel_rfl) (by kernel_rfl) (fun _ _ _ h => h) (by rfl) (fun w hSw => by (have hSw2 := SSm.facts hSw; clear hSw; go_simp; first | done | exact rfl)) (by assumption) ?_
  simp only [List.setIfInBounds_toArray, List.set_cons_zero, List.set_cons_succ]
  refine take_at (i := 27) 52 rfl rfl (by kernel_rfl) (by kernel_rfl) (by kernel_rfl) (fun _ _ _ h => h) (by rfl) (fun w hSw => by (have hSw2 := SSm.facts hSw; clear hSw; go_simp; first | done | exact rfl)) (by assumption) ?_
  simp only [List.setIfInBounds_toArray, List.set_cons_zero, List.set_cons_succ]
  refine take_at (i := 29) 54 rfl rfl (by kernel_rfl) (by kernel_rfl) (by kernel_rfl) (fun _ _ _ h => h) (by rfl) (fun w hSw => by (have hSw2 := SSm.facts hSw; clear hSw; go_simp; first | done | exact rfl)) (by assumption) ?_
  simp only [List.setIfInBounds_toArray, List.set_cons_zero, List.set_cons_succ]
  refine take_at (i := 31) 56 rfl rfl (by kernel_rfl) (by kernel_rfl) (by kernel_rfl) (fun _ _ _ h => h) (by rfl) (fun w hSw => by (have hSw2 := SSm.facts hSw; clear hSw; go_simp; first | done | exact rfl)) (by assumption) ?_
  simp only [List.setIfInBounds_toArray, List.set_cons_zero, List.set_cons_succ]
  refine one_call (i := 28) (w0 := w4.drew.drewN k5) 53 16 #[.pointer (some ⟨b, 0, none⟩)] (by kernel_rfl) rfl rfl (by rfl) (by kernel_rfl) ?_
  refine (HFI.out _ (HS.out.on (below_drewN HQ.out.2 _))).mono ?_
  rintro e w5 ⟨rfl, rfl⟩
  refine ⟨_, rfl, hS5, fun hHeld3 => ?_⟩
  simp only [List.setIfInBounds_toArray, List.set_cons_zero, List.set_cons_succ]
  have HB6 : Hid (Below w.heap.size w (w4.drew.drewN k5)) := below_drewN HQ.out.2 _
  obtain ⟨w6, hw6⟩ : ∃ w6, w4.drew.drewN k5 = w6 := ⟨_, rfl⟩
  have hz6 : w.heap.size < w6.heap.size := by rw [← hw6]; exact HQ.out.1
  rw [hw6] at hS5 HB6 ⊢
  clear hw6 hHeld hHeld1 hHeld2 hHeld3 hS4
  refine one_call (i := 30) (w0 := w6) 55 18 #[.pointer (some ⟨b, 0, none⟩)] (by kernel_rfl) rfl rfl (by rfl) (by kernel_rfl) ?_
  refine (HAL.out _ (HS.out.on HB6.out)).mono ?_
  rintro e w7 ⟨hb7, sv, rfl, hsv⟩
  have hS7 : SSm w.heap.size fi Ra n Rc w7 := hS5.below hb7 hz6
  have HB7 : Hid (Below w.heap.size w w7) := HB6.out.trans (hb7.mono HB6.out.size)
  refine ⟨_, rfl, hS7, fun hHeld4 => ?_⟩
  simp only [List.setIfInBounds_toArray, List.set_cons_zero, List.set_cons_succ]
  refine one_call (i := 32) (w0 := w7) 57 17 #[.int .u64 (fi : Int), sv, .agg #[.int .u64 (fi : Int), .slice Ra n Rc]] (by kernel_rfl) rfl rfl (by rfl) (by kernel_rfl) ?_
  refine (HFT.out _ sv hsv.read (HR.out.below HB7.out)).mono ?_
  rintro e w8 ⟨hb8, rfl⟩
  have hS8 : SSm w.heap.size fi Ra n Rc w8 := hS7.below hb8 (Nat.lt_of_lt_of_le hz6 hb7.size)
  have HB8 : Hid (Below w.heap.size w w8) := HB7.out.trans (hb8.mono HB7.out.size)
  refine ⟨_, rfl, hS8, fun hHeld5 => ?_⟩
  simp only [List.setIfInBounds_toArray, List.set_cons_zero, List.set_cons_succ]
  refine take_at (i := 33) (v := .bool true) 58 rfl rfl (by kernel_rfl) (by kernel_rfl) (by kernel_rfl) (fun _ _ _ h => h) (by rfl) (fun w hSw => by (have hSw2 := SSm.facts hSw; clear hSw; go_simp; first | done | exact rfl | simp_all | (simp; omega))) (by assumption) ?_
  simp only [List.setIfInBounds_toArray, List.set_cons_zero, List.set_cons_succ]
  refine take_at (i := 34) 4 rfl rfl (by kernel_rfl) (by kernel_rfl) (by kernel_rfl) (fun _ _ _ h => h) (by rfl) (fun w hSw => by (have hSw2 := SSm.facts hSw; clear hSw; go_simp; first | done | exact rfl)) (by assumption) ?_
  simp only [List.setIfInBounds_toArray, List.set_cons_zero, List.set_cons_succ]
  refine wpAnyH_done (by kernel_rfl) ?_ _
  clear hHeld4 hHeld5 hS5 hS7 hS8 hb7 hb8 hsv
  go_wp2_with fail
  go_ret
  exact ⟨rfl, HB8.out⟩
end Go.Proofs.YthecngkdmnadoaaGreat
