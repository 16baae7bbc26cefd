/- The reference's Best and Same. -/
import Derived.Test.YtmpfcdffpjocnaaBtSelect
import Derived.Deep.QuietTactic
import Derived.BigQuiet
namespace Go.Proofs.Ytmpfcdffpjocnaa
open Go.RowKit Go.Lib Nums Pm
set_option maxRecDepth 100000
namespace Bt
theorem ins_mid (m y : Mt) (hb : btr m y = true) : ∀ T : List Mt, (∀ z ∈ T, btr m z = false) → ins m (T ++ [y]) = T ++ [m, y]
  | [], _ => by simp [ins, hb]
  | z :: r, h => by
    rw [List.cons_append]
    unfold ins
    rw [h z (by simp), if_neg (by simp), ins_mid m y hb r (fun q hq => h q (by simp [hq]))]
    rfl
theorem ins_done (m y : Mt) : ∀ T : List Mt, (∃ z ∈ T, btr m z = true) → ins m (T ++ [y]) = ins m T ++ [y]
  | [], h => by obtain ⟨z, hz, _⟩ := h; cases hz
  | z :: r, h => by
    rw [List.cons_append]
    unfold ins
    split
    · rfl
    · rename_i hz
      rw [ins_done m y r (by
        obtain ⟨q, hq, e⟩ := h
        rcases List.mem_cons.1 hq with rfl | hq
        · exact absurd e hz
        · exact ⟨q, hq, e⟩)]
      rfl
/-- What is known while a match is put in. -/
def Ist (x : Mt) (o : List Mt) (j : Nat) (d : Bool) (ns : List Mt) : Prop := (d = false ∧ ns = o.take j ∧ ∀ y ∈ o.take j, btr x y = false) ∨ (d = true ∧ ns = ins x (o.take j) ∧ ∃ y ∈ o.take j, btr x y = true)
theorem Ist.nil (x : Mt) (o : List Mt) : Ist x o 0 false [] := .inl ⟨rfl, rfl, fun y hy => by cases hy⟩
theorem take_at_m {o : List Mt} {j : Nat} {y : Mt} (hy : o[j]? = some y) : o.take (j + 1) = o.take j ++ [y] := by
  obtain ⟨hj, e⟩ := List.getElem?_eq_some_iff.1 hy
  rw [List.take_succ_eq_append_getElem hj, e]
theorem Ist.no {x y : Mt} {o ns : List Mt} {j : Nat} (h : Ist x o j false ns) (hy : o[j]? = some y) (hb : btr x y = false) : Ist x o (j + 1) false (ns ++ [y]) := by
  rcases h with ⟨_, rfl, h2⟩ | ⟨h1, _⟩
  · refine .inl ⟨rfl, (take_at_m hy).symm, fun z hz => ?_⟩
    rw [take_at_m hy] at hz
    rcases List.mem_append.1 hz with hz | hz
    · exact h2 z hz
    · rw [List.mem_singleton.1 hz]; exact hb
  · cases h1
theorem Ist.yes {x y : Mt} {o ns : List Mt} {j : Nat} (h : Ist x o j false ns) (hy : o[j]? = some y) (hb : btr x y = true) : Ist x o (j + 1) true ((ns ++ [x]) ++ [y]) := by
  rcases h with ⟨_, rfl, h2⟩ | ⟨h1, _⟩
  · refine .inr ⟨rfl, ?_, y, by rw [take_at_m hy]; simp, hb⟩
    rw [take_at_m hy, ins_mid x y hb _ h2]
    simp
  · cases h1
theorem Ist.on {x y : Mt} {o ns : List Mt} {j : Nat} (h : Ist x o j true ns) (hy : o[j]? = some y) : Ist x o (j + 1) true (ns ++ [y]) := by
  rcases h with ⟨h1, _⟩ | ⟨_, rfl, z, hz, hb⟩
  · cases h1
  · exact .inr ⟨rfl, by rw [take_at_m hy, ins_done x y _ ⟨z, hz, hb⟩], z, by rw [take_at_m hy]; exact List.mem_append_left _ hz, hb⟩
theorem Ist.end {x : Mt} {o ns : List Mt} {j : Nat} {d : Bool} (h : Ist x o j d ns) (hj : o.length ≤ j) : (if d then ns else ns ++ [x]) = ins x o := by
  rcases h with ⟨rfl, rfl, h2⟩ | ⟨rfl, rfl, _⟩
  · rw [List.take_of_length_le hj] at h2 ⊢
    exact (ins_end x o h2).symm
  · rw [List.take_of_length_le hj]; rfl
theorem Ist.len {x : Mt} {o ns : List Mt} {j : Nat} {d : Bool} (h : Ist x o j d ns) : ns.length ≤ o.length + 1 := by
  rcases h with ⟨_, rfl, _⟩ | ⟨_, rfl, _⟩
  · rw [List.length_take]; omega
  · rw [ins_len, List.length_take]; omega
/-- Two matches in two rows. -/
structure SXY (g1 a g2 b : Nat) (x y : Mt) (W : World) : Prop where
  a0 : W.cell? ⟨g1, a, none⟩ = some (.string x.1)
  a1 : W.cell? ⟨g1, a + 1, none⟩ = some (.int .i64 x.2.1)
  a2 : W.cell? ⟨g1, a + 2, none⟩ = some (.int .i64 x.2.2)
  b0 : W.cell? ⟨g2, b, none⟩ = some (.string y.1)
  b1 : W.cell? ⟨g2, b + 1, none⟩ = some (.int .i64 y.2.1)
  b2 : W.cell? ⟨g2, b + 2, none⟩ = some (.int .i64 y.2.2)
theorem SXY.facts {g1 a g2 b : Nat} {x y : Mt} {W : World} (h : SXY g1 a g2 b x y W) : W.cell? ⟨g1, a, none⟩ = some (.string x.1) ∧ W.cell? ⟨g1, a + 1, none⟩ = some (.int .i64 x.2.1) ∧ W.cell? ⟨g1, a + 2, none⟩ = some (.int .i64 x.2.2) ∧ W.cell? ⟨g2, b, none⟩ = some (.string y.1) ∧ W.cell? ⟨g2, b + 1, none⟩ = some (.int .i64 y.2.1) ∧ W.cell? ⟨g2, b + 2, none⟩ = some (.int .i64 y.2.2) := ⟨h.a0, h.a1, h.a2, h.b0, h.b1, h.b2⟩
theorem SXY.below {g1 a g2 b : Nat} {x y : Mt} {W W' : World} {E : Nat} (h : SXY g1 a g2 b x y W) (h1 : g1 < E) (h2 : g2 < E) (hb : Below E W W') : SXY g1 a g2 b x y W' :=
  ⟨(hb.cell (p := ⟨g1, a, none⟩) h1).trans h.a0, (hb.cell (p := ⟨g1, a + 1, none⟩) h1).trans h.a1, (hb.cell (p := ⟨g1, a + 2, none⟩) h1).trans h.a2, (hb.cell (p := ⟨g2, b, none⟩) h2).trans h.b0, (hb.cell (p := ⟨g2, b + 1, none⟩) h2).trans h.b1, (hb.cell (p := ⟨g2, b + 2, none⟩) h2).trans h.b2⟩
/-- What is known inside the inner loop. -/
structure InR (w0 : World) (x : Mt) (o : List Mt) (j : Nat) (d : Bool) (ns : List Mt) (v : Value) (wj : World) : Prop where
  ist : Ist x o j d ns
  row : GOwn 23 3 w0.heap.size wj v (ns.map cellsM)
  bel : Below w0.heap.size w0 wj
set_option maxHeartbeats 4000000 in
theorem refBest_any (w : World) (v : Value) (l : List Mt) (k : Int) (h : MRow w v l) (hs : ∀ x ∈ l, SmM x) (hl : l.length ≤ 4398046511104) :
    Calls Try.prog 15 #[v, .int .i64 k] w fun e w' => ∃ vl, e = .returned vl ∧ GOwn 23 3 w.heap.size w' vl ((bestF (kk k) l).map cellsM) ∧ Below w.heap.size w w' := by
  obtain ⟨ad, cap, rfl⟩ := h.form
  obtain ⟨n, hn⟩ : ∃ n, l.length = n := ⟨_, rfl⟩
  rw [hn] at h hl ⊢
  have HROW : Hid (MRow w (.slice ad n cap) l) := h
  have HN : Hid (l.length = n) := hn
  have HSM : Hid (∀ x ∈ l, SmM x) := hs
  obtain ⟨kq, hkq⟩ : ∃ kq, kk k = kq := ⟨_, rfl⟩
  obtain ⟨km, hkm⟩ : ∃ km, min k 64 = km := ⟨_, rfl⟩
  have hmx : max km 0 = (kq : Int) := by rw [← hkq]; unfold kk; rw [hkm]; omega
  have hkq64 : kq ≤ 64 := by rw [← hkq]; unfold kk; omega
  rw [hkq]
  clear h hn hs hkq
  go_enter Try.func15, Try.ntmps15
  go_wp2
  go_loopg [5, 6] n (fun g s5 s6 wr => ∃ (i : Nat) (vd : Option Addr) (vn vc : Nat), s6 = .int .i64 i ∧ s5 = .slice vd vn vc ∧ i ≤ n ∧ n - i ≤ g ∧ Hid (GOwn 23 3 w.heap.size wr (.slice vd vn vc) ((bestF kq (l.take i)).map cellsM) ∧ Below w.heap.size w wr))
  case atStart => exact ⟨0, none, 0, 0, rfl, rfl, Nat.zero_le _, by omega, by rw [List.take_zero]; exact GOwn.nil _ _ _ _, Below.refl _ _⟩
  case round =>
    obtain ⟨i, vd, vn, vc, rfl, rfl, hin, hg, HR⟩ := hrel
    by_cases hlt : i < n
    · have hltz : (i : Int) < (n : Int) := by omega
      obtain ⟨x, hx⟩ : ∃ x, l[i]? = some x := ⟨l[i]'(by have := HN.out; omega), List.getElem?_eq_getElem _⟩
      have HX : Hid (l[i]? = some x) := hx
      obtain ⟨o, ho⟩ : ∃ o, bestF kq (l.take i) = o := ⟨_, rfl⟩
      have HO : Hid (bestF kq (l.take i) = o) := ho
      rw [ho] at HR
      have HG : Hid (GOwn 23 3 w.heap.size wr (.slice vd vn vc) (o.map cellsM)) := HR.out.1
      have HB : Hid (Below w.heap.size w wr) := HR.out.2
      have hvn : o.length = vn := by
        obtain ⟨ad', cap', e, _⟩ := HG.out.shape
        simp only [Value.slice.injEq, List.length_map] at e
        exact e.2.1.symm
      have HVN : Hid (o.length = vn) := hvn
      have hv64 : vn ≤ 64 := by have := bestF_len kq (l.take i); rw [ho] at this; omega
      have HSX : Hid (SmM x) := HSM.out x (List.mem_of_getElem? hx)
      obtain ⟨g1, off, rfl, hg1, hc1⟩ := (HROW.out.below HB.out).at (by have := HN.out; omega)
      obtain ⟨x0, x1, x2⟩ := hc1 i x hx
      have HC1 : Hid (wr.cell? ⟨g1, off + i * 3, none⟩ = some (.string x.1) ∧ wr.cell? ⟨g1, off + i * 3 + 1, none⟩ = some (.int .i64 x.2.1) ∧ wr.cell? ⟨g1, off + i * 3 + 2, none⟩ = some (.int .i64 x.2.2)) := ⟨x0, x1, x2⟩
      clear hx ho HR hvn hc1 x0 x1 x2
      obtain ⟨wo, hwo⟩ : ∃ wo, wo = wr := ⟨_, rfl⟩
      subst hwo
      go_wp2
      go_loopg [7, 8, 9] vn (fun g s7 s8 s9 wj => ∃ (j : Nat) (dz : Bool) (nd : Option Addr) (nn nc : Nat) (nz : List Mt), s9 = .int .i64 j ∧ s8 = .bool dz ∧ s7 = .slice nd nn nc ∧ j ≤ vn ∧ vn - j ≤ g ∧ Hid (InR wo x o j dz nz (.slice nd nn nc) wj))
      case atStart => exact ⟨0, false, none, 0, 0, [], rfl, rfl, rfl, Nat.zero_le _, by omega, Ist.nil x o, GOwn.nil _ _ _ _, Below.refl _ _⟩
      case round =>
        obtain ⟨j, dz, nd, nn, nc, nz, rfl, rfl, rfl, hjn, hg2, HR2⟩ := hrel
        by_cases hjl : j < vn
        · have hjz : (j : Int) < (vn : Int) := by omega
          obtain ⟨y, hy⟩ : ∃ y, o[j]? = some y := ⟨o[j]'(by have := HVN.out; omega), List.getElem?_eq_getElem _⟩
          have HY : Hid (o[j]? = some y) := hy
          have hey : el o j = y := by unfold el; rw [hy]; rfl
          obtain ⟨g2, cap2, hv2, hg2l, hz1, hz2, hc2⟩ := GOwn.mt HG.out (by have := HVN.out; omega)
          simp only [Value.slice.injEq] at hv2
          obtain ⟨hvd, hvn2, hvc2⟩ := hv2
          subst hvd
          clear hvn2 hvc2
          obtain ⟨q0, q1, q2, hq3⟩ := hc2 j (by have := HVN.out; omega)
          clear hq3
          rw [hey] at q0 q1 q2
          have HSO : Hid (SXY g1 (off + i * 3) g2 (j * 3) x y wo) := ⟨HC1.out.1, HC1.out.2.1, HC1.out.2.2, q0, q1, q2⟩
          have HSJ : Hid (SXY g1 (off + i * 3) g2 (j * 3) x y wr) := HSO.out.below (E := wo.heap.size) hg1 hg2l HR2.out.bel
          have HSY : Hid (SmM y) := HSM.out y (by
            have h1 := bestF_isort kq (l.take i)
            rw [HO.out] at h1
            have h2 : y ∈ isort (l.take i) := List.mem_of_mem_take (by rw [← h1]; exact List.mem_of_getElem? hy)
            exact List.mem_of_mem_take ((isort_perm _).mem_iff.1 h2))
          have HRB : Hid (∀ W, Calls Try.prog 12 #[valM x, valM y] W fun e w' => e = .returned (.bool (btr x y)) ∧ Below W.heap.size W w') := fun W => refBetter_any x y W HSX.out HSY.out
          have HLZ : Hid (nz.length ≤ 65) := by have := HR2.out.ist.len; have := HVN.out; show nz.length ≤ 65; omega
          clear hy hey hc2 q0 q1 q2 hz1 hz2
          cases dz
          · obtain ⟨bt, hbt⟩ : ∃ b, btr x y = b := ⟨_, rfl⟩
            have HBT : Hid (btr x y = bt) := hbt
            rw [hbt] at HRB
            clear hbt
            cases bt
            · go_upto_region 11 with fail
              refine region_at (S := SXY g1 (off + i * 3) g2 (j * 3) x y) 13 rfl mixedB (show SXY g1 (off + i * 3) g2 (j * 3) x y wr.drew from ⟨HSJ.out.a0, HSJ.out.a1, HSJ.out.a2, HSJ.out.b0, HSJ.out.b1, HSJ.out.b2⟩) (fun _ => ?_)
              refine take_at (i := 0) 24 rfl rfl (by kernel_rfl) (by kernel_rfl) (by kernel_rfl) (fun _ _ _ h => h) (by rfl) (fun w hSw => by (have hSw2 := SXY.facts hSw; clear hSw; go_simp; first | done | exact rfl)) (by assumption) ?_
              simp only [List.setIfInBounds_toArray, List.set_cons_zero, List.set_cons_succ]
              refine take_at (i := 1) 25 rfl rfl (by kernel_rfl) (by kernel_rfl) (by kernel_rfl) (fun _ _ _ h => h) (by rfl) (fun w hSw => by (have hSw2 := SXY.facts hSw; clear hSw; go_simp; first | done | exact rfl)) (by assumption) ?_
              simp only [List.setIfInBounds_toArray, List.set_cons_zero, List.set_cons_succ]
              refine take_at (i := 2) 26 rfl rfl (by kernel_rfl) (by kernel_rfl) (by kernel_rfl) (fun _ _ _ h => h) (by rfl) (fun w hSw => by (have hSw2 := SXY.facts hSw; clear hSw; go_simp; first | done | exact rfl)) (by assumption) ?_
              simp only [List.setIfInBounds_toArray, List.set_cons_zero, List.set_cons_succ]
              refine take_at (i := 3) 27 rfl rfl (by kernel_rfl) (by kernel_rfl) (by kernel_rfl) (fun _ _ _ h => h) (by rfl) (fun w hSw => by (have hSw2 := SXY.facts hSw; clear hSw; go_simp; first | done | exact rfl)) (by assumption) ?_
              simp only [List.setIfInBounds_toArray, List.set_cons_zero, List.set_cons_succ]
              refine take_at (i := 4) 28 rfl rfl (by kernel_rfl) (by kernel_rfl) (by kernel_rfl) (fun _ _ _ h => h) (by rfl) (fun w hSw => by (have hSw2 := SXY.facts hSw; clear hSw; go_simp; first | done | exact rfl)) (by assumption) ?_
              simp only [List.setIfInBounds_toArray, List.set_cons_zero, List.set_cons_succ]
              refine take_at (i := 5) 29 rfl rfl (by kernel_rfl) (by kernel_rfl) (by kernel_rfl) (fun _ _ _ h => h) (by rfl) (fun w hSw => by (have hSw2 := SXY.facts hSw; clear hSw; go_simp; first | done | exact rfl)) (by assumption) ?_
              simp only [List.setIfInBounds_toArray, List.set_cons_zero, List.set_cons_succ]
              refine take_at (i := 6) 30 rfl rfl (by kernel_rfl) (by kernel_rfl) (by kernel_rfl) (fun _ _ _ h => h) (by rfl) (fun w hSw => by (have hSw2 := SXY.facts hSw; clear hSw; go_simp; first | done | exact rfl)) (by assumption) ?_
              simp only [List.setIfInBounds_toArray, List.set_cons_zero, List.set_cons_succ]
              refine take_at (i := 7) 31 rfl rfl (by kernel_rfl) (by kernel_rfl) (by kernel_rfl) (fun _ _ _ h => h) (by rfl) (fun w hSw => by (have hSw2 := SXY.facts hSw; clear hSw; go_simp; first | done | exact rfl)) (by assumption) ?_
              simp only [List.setIfInBounds_toArray, List.set_cons_zero, List.set_cons_succ]
              refine take_at (i := 8) 32 rfl rfl (by kernel_rfl) (by kernel_rfl) (by kernel_rfl) (fun _ _ _ h => h) (by rfl) (fun w hSw => by (have hSw2 := SXY.facts hSw; clear hSw; go_simp; first | done | exact rfl)) (by assumption) ?_
              simp only [List.setIfInBounds_toArray, List.set_cons_zero, List.set_cons_succ]
              refine take_at (i := 9) 33 rfl rfl (by kernel_rfl) (by kernel_rfl) (by kernel_rfl) (fun _ _ _ h => h) (by rfl) (fun w hSw => by (have hSw2 := SXY.facts hSw; clear hSw; go_simp; first | done | exact rfl)) (by assumption) ?_
              simp only [List.setIfInBounds_toArray, List.set_cons_zero, List.set_cons_succ]
              refine take_at (i := 10) 34 rfl rfl (by kernel_rfl) (by kernel_rfl) (by kernel_rfl) (fun _ _ _ h => h) (by rfl) (fun w hSw => by (have hSw2 := SXY.facts hSw; clear hSw; go_simp; first | done | exact rfl)) (by assumption) ?_
              simp only [List.setIfInBounds_toArray, List.set_cons_zero, List.set_cons_succ]
              refine one_call (i := 11) (w0 := wr.drew) 35 12 #[valM x, valM y] (by kernel_rfl) rfl rfl (by rfl) (by kernel_rfl) ((HRB.out wr.drew).mono ?_)
              rintro e w2 ⟨rfl, hb2'⟩
              have hb2 : Below wr.heap.size wr w2 := (Below.refl _ wr).drew.trans hb2'
              have HB2 : Hid (Below wo.heap.size wo w2) := HR2.out.bel.trans (hb2.mono HR2.out.bel.size)
              have hS2 : SXY g1 (off + i * 3) g2 (j * 3) x y w2 := HSJ.out.below (E := wo.heap.size) hg1 hg2l (hb2.mono HR2.out.bel.size)
              have HS2 : Hid (SXY g1 (off + i * 3) g2 (j * 3) x y w2) := hS2
              have HO2 : Hid (GOwn 23 3 wo.heap.size w2 (.slice nd nn nc) (nz.map cellsM)) := HR2.out.row.below hb2
              refine ⟨_, rfl, hS2, fun _ => ?_⟩
              simp only [List.setIfInBounds_toArray, List.set_cons_zero, List.set_cons_succ]
              clear hb2 hb2'
              refine one_value (i := 12) (v := .bool false) (w' := w2) 36 (by kernel_rfl) rfl rfl (by rfl) (by kernel_rfl) hS2 (fun _ => ?_)
              simp only [List.setIfInBounds_toArray, List.set_cons_zero, List.set_cons_succ]
              refine wpAnyH_done (by kernel_rfl) ?_ _
              go_upto_region 14 with fail
              obtain ⟨wz, hwz⟩ : ∃ wz, wz = w2 := ⟨_, rfl⟩
              subst hwz
              have HSZ := HS2
              have HOZ := HO2
              have HBZ := HB2
              have HIZ : Hid (Ist x o (j + 1) false (nz ++ [y])) := HR2.out.ist.no HY.out HBT.out
              have HLN : Hid ((nz.map cellsM).length < 1099511627776) := by show _ < _; rw [List.length_map]; have := HLZ.out; omega
              clear hS2
              obtain ⟨y0, y1, y2⟩ : wz.cell? ⟨g2, j * 3, none⟩ = some (.string y.1) ∧ wz.cell? ⟨g2, j * 3 + 1, none⟩ = some (.int .i64 y.2.1) ∧ wz.cell? ⟨g2, j * 3 + 2, none⟩ = some (.int .i64 y.2.2) := ⟨HSZ.out.b0, HSZ.out.b1, HSZ.out.b2⟩
              go_wp2_with (at_builtin; refine append_g rtyM (by rfl) _ _ [.string y.1, .int .i64 y.2.1, .int .i64 y.2.2] _ rfl wo.heap.size _ _ _ _ rfl HOZ.out rfl rfl (cellsM_ok y) HLN.out HBZ.out.size ?_)
              intro v7 w7 ho7 hb7 hg7
              obtain ⟨d7, c7, hv7, _⟩ := ho7.shape
              have HR7 : Hid (InR wo x o (j + 1) _ _ v7 w7) := ⟨HIZ.out, by first | (rw [List.map_append]; exact ho7) | (simpa [cellsM] using ho7), HBZ.out.trans hb7⟩
              subst hv7
              clear ho7 hb7 hg7 y0 y1 y2
              go_wp2
              go_roundg (vn - (j + 1))
              case measure => omega
              case rel => exact ⟨j + 1, _, _, _, _, _, by go_num, rfl, rfl, by omega, Nat.le_refl _, HR7⟩
            · go_upto_region 11 with fail
              refine region_at (S := SXY g1 (off + i * 3) g2 (j * 3) x y) 13 rfl mixedB (show SXY g1 (off + i * 3) g2 (j * 3) x y wr.drew from ⟨HSJ.out.a0, HSJ.out.a1, HSJ.out.a2, HSJ.out.b0, HSJ.out.b1, HSJ.out.b2⟩) (fun _ => ?_)
              refine take_at (i := 0) 24 rfl rfl (by kernel_rfl) (by kernel_rfl) (by kernel_rfl) (fun _ _ _ h => h) (by rfl) (fun w hSw => by (have hSw2 := SXY.facts hSw; clear hSw; go_simp; first | done | exact rfl)) (by assumption) ?_
              simp only [List.setIfInBounds_toArray, List.set_cons_zero, List.set_cons_succ]
              refine take_at (i := 1) 25 rfl rfl (by kernel_rfl) (by kernel_rfl) (by kernel_rfl) (fun _ _ _ h => h) (by rfl) (fun w hSw => by (have hSw2 := SXY.facts hSw; clear hSw; go_simp; first | done | exact rfl)) (by assumption) ?_
              simp only [List.setIfInBounds_toArray, List.set_cons_zero, List.set_cons_succ]
              refine take_at (i := 2) 26 rfl rfl (by kernel_rfl) (by kernel_rfl) (by kernel_rfl) (fun _ _ _ h => h) (by rfl) (fun w hSw => by (have hSw2 := SXY.facts hSw; clear hSw; go_simp; first | done | exact rfl)) (by assumption) ?_
              simp only [List.setIfInBounds_toArray, List.set_cons_zero, List.set_cons_succ]
              refine take_at (i := 3) 27 rfl rfl (by kernel_rfl) (by kernel_rfl) (by kernel_rfl) (fun _ _ _ h => h) (by rfl) (fun w hSw => by (have hSw2 := SXY.facts hSw; clear hSw; go_simp; first | done | exact rfl)) (by assumption) ?_
              simp only [List.setIfInBounds_toArray, List.set_cons_zero, List.set_cons_succ]
              refine take_at (i := 4) 28 rfl rfl (by kernel_rfl) (by kernel_rfl) (by kernel_rfl) (fun _ _ _ h => h) (by rfl) (fun w hSw => by (have hSw2 := SXY.facts hSw; clear hSw; go_simp; first | done | exact rfl)) (by assumption) ?_
              simp only [List.setIfInBounds_toArray, List.set_cons_zero, List.set_cons_succ]
              refine take_at (i := 5) 29 rfl rfl (by kernel_rfl) (by kernel_rfl) (by kernel_rfl) (fun _ _ _ h => h) (by rfl) (fun w hSw => by (have hSw2 := SXY.facts hSw; clear hSw; go_simp; first | done | exact rfl)) (by assumption) ?_
              simp only [List.setIfInBounds_toArray, List.set_cons_zero, List.set_cons_succ]
              refine take_at (i := 6) 30 rfl rfl (by kernel_rfl) (by kernel_rfl) (by kernel_rfl) (fun _ _ _ h => h) (by rfl) (fun w hSw => by (have hSw2 := SXY.facts hSw; clear hSw; go_simp; first | done | exact rfl)) (by assumption) ?_
              simp only [List.setIfInBounds_toArray, List.set_cons_zero, List.set_cons_succ]
              refine take_at (i := 7) 31 rfl rfl (by kernel_rfl) (by kernel_rfl) (by kernel_rfl) (fun _ _ _ h => h) (by rfl) (fun w hSw => by (have hSw2 := SXY.facts hSw; clear hSw; go_simp; first | done | exact rfl)) (by assumption) ?_
              simp only [List.setIfInBounds_toArray, List.set_cons_zero, List.set_cons_succ]
              refine take_at (i := 8) 32 rfl rfl (by kernel_rfl) (by kernel_rfl) (by kernel_rfl) (fun _ _ _ h => h) (by rfl) (fun w hSw => by (have hSw2 := SXY.facts hSw; clear hSw; go_simp; first | done | exact rfl)) (by assumption) ?_
              simp only [List.setIfInBounds_toArray, List.set_cons_zero, List.set_cons_succ]
              refine take_at (i := 9) 33 rfl rfl (by kernel_rfl) (by kernel_rfl) (by kernel_rfl) (fun _ _ _ h => h) (by rfl) (fun w hSw => by (have hSw2 := SXY.facts hSw; clear hSw; go_simp; first | done | exact rfl)) (by assumption) ?_
              simp only [List.setIfInBounds_toArray, List.set_cons_zero, List.set_cons_succ]
              refine take_at (i := 10) 34 rfl rfl (by kernel_rfl) (by kernel_rfl) (by kernel_rfl) (fun _ _ _ h => h) (by rfl) (fun w hSw => by (have hSw2 := SXY.facts hSw; clear hSw; go_simp; first | done | exact rfl)) (by assumption) ?_
              simp only [List.setIfInBounds_toArray, List.set_cons_zero, List.set_cons_succ]
              refine one_call (i := 11) (w0 := wr.drew) 35 12 #[valM x, valM y] (by kernel_rfl) rfl rfl (by rfl) (by kernel_rfl) ((HRB.out wr.drew).mono ?_)
              rintro e w2 ⟨rfl, hb2'⟩
              have hb2 : Below wr.heap.size wr w2 := (Below.refl _ wr).drew.trans hb2'
              have HB2 : Hid (Below wo.heap.size wo w2) := HR2.out.bel.trans (hb2.mono HR2.out.bel.size)
              have hS2 : SXY g1 (off + i * 3) g2 (j * 3) x y w2 := HSJ.out.below (E := wo.heap.size) hg1 hg2l (hb2.mono HR2.out.bel.size)
              have HS2 : Hid (SXY g1 (off + i * 3) g2 (j * 3) x y w2) := hS2
              have HO2 : Hid (GOwn 23 3 wo.heap.size w2 (.slice nd nn nc) (nz.map cellsM)) := HR2.out.row.below hb2
              refine ⟨_, rfl, hS2, fun _ => ?_⟩
              simp only [List.setIfInBounds_toArray, List.set_cons_zero, List.set_cons_succ]
              clear hb2 hb2'
              refine one_value (i := 12) (v := .bool true) (w' := w2) 36 (by kernel_rfl) rfl rfl (by rfl) (by kernel_rfl) hS2 (fun _ => ?_)
              simp only [List.setIfInBounds_toArray, List.set_cons_zero, List.set_cons_succ]
              refine wpAnyH_done (by kernel_rfl) ?_ _
              have a0 := hS2.a0
              have a1 := hS2.a1
              have a2 := hS2.a2
              have HLN2 : Hid ((nz.map cellsM).length < 1099511627776) := by show _ < _; rw [List.length_map]; have := HLZ.out; omega
              clear hS2
              go_upto_region 13 with (at_builtin; refine append_g rtyM (by rfl) _ _ [.string x.1, .int .i64 x.2.1, .int .i64 x.2.2] _ rfl wo.heap.size _ _ _ _ rfl HO2.out rfl rfl (cellsM_ok x) HLN2.out HB2.out.size ?_; intro vq wz hoq hbq hgq; obtain ⟨dq, nq2, cq, hvq⟩ : ∃ d n c, vq = .slice d n c := (by obtain ⟨d, c, e, _⟩ := hoq.shape; exact ⟨d, _, c, e⟩); have HOZ : Hid (GOwn 23 3 wo.heap.size wz vq ((nz ++ [x]).map cellsM)) := (by rw [List.map_append]; exact hoq); have HBZ : Hid (Below wo.heap.size wo wz) := HB2.out.trans hbq; have HSZ : Hid (SXY g1 (off + i * 3) g2 (j * 3) x y wz) := HS2.out.below (E := wo.heap.size) hg1 hg2l hbq; clear hoq hbq hgq; subst hvq)
              clear a0 a1 a2
              go_upto_region 14 with fail
              have HIZ : Hid (Ist x o (j + 1) true ((nz ++ [x]) ++ [y])) := HR2.out.ist.yes HY.out HBT.out
              have HLN : Hid (((nz ++ [x]).map cellsM).length < 1099511627776) := by show _ < _; rw [List.length_map, List.length_append]; have := HLZ.out; simp; omega
              obtain ⟨y0, y1, y2⟩ : wz.cell? ⟨g2, j * 3, none⟩ = some (.string y.1) ∧ wz.cell? ⟨g2, j * 3 + 1, none⟩ = some (.int .i64 y.2.1) ∧ wz.cell? ⟨g2, j * 3 + 2, none⟩ = some (.int .i64 y.2.2) := ⟨HSZ.out.b0, HSZ.out.b1, HSZ.out.b2⟩
              go_wp2_with (at_builtin; refine append_g rtyM (by rfl) _ _ [.string y.1, .int .i64 y.2.1, .int .i64 y.2.2] _ rfl wo.heap.size _ _ _ _ rfl HOZ.out rfl rfl (cellsM_ok y) HLN.out HBZ.out.size ?_)
              intro v7 w7 ho7 hb7 hg7
              obtain ⟨d7, c7, hv7, _⟩ := ho7.shape
              have HR7 : Hid (InR wo x o (j + 1) _ _ v7 w7) := ⟨HIZ.out, by first | (rw [List.map_append]; exact ho7) | (simpa [cellsM] using ho7), HBZ.out.trans hb7⟩
              subst hv7
              clear ho7 hb7 hg7 y0 y1 y2
              go_wp2
              go_roundg (vn - (j + 1))
              case measure => omega
              case rel => exact ⟨j + 1, _, _, _, _, _, by go_num, rfl, rfl, by omega, Nat.le_refl _, HR7⟩
          · go_upto_region 11 with fail
            go_quiet (fail)
            obtain ⟨wz, hwz⟩ : ∃ wz, wz = wr.drewN nq := ⟨_, rfl⟩
            have hbz : Below wr.heap.size wr wz := by rw [hwz]; exact belowN (Below.refl _ _) nq
            have HBZ : Hid (Below wo.heap.size wo wz) := HR2.out.bel.trans (hbz.mono HR2.out.bel.size)
            have HSZ : Hid (SXY g1 (off + i * 3) g2 (j * 3) x y wz) := HSJ.out.below (E := wo.heap.size) hg1 hg2l (hbz.mono HR2.out.bel.size)
            have HOZ : Hid (GOwn 23 3 wo.heap.size wz (.slice nd nn nc) (nz.map cellsM)) := HR2.out.row.below hbz
            rw [← hwz]
            clear hwz hbz
            go_upto_region 14 with fail
            have HIZ : Hid (Ist x o (j + 1) true (nz ++ [y])) := HR2.out.ist.on HY.out
            have HLN : Hid ((nz.map cellsM).length < 1099511627776) := by show _ < _; rw [List.length_map]; have := HLZ.out; omega
            obtain ⟨y0, y1, y2⟩ : wz.cell? ⟨g2, j * 3, none⟩ = some (.string y.1) ∧ wz.cell? ⟨g2, j * 3 + 1, none⟩ = some (.int .i64 y.2.1) ∧ wz.cell? ⟨g2, j * 3 + 2, none⟩ = some (.int .i64 y.2.2) := ⟨HSZ.out.b0, HSZ.out.b1, HSZ.out.b2⟩
            go_wp2_with (at_builtin; refine append_g rtyM (by rfl) _ _ [.string y.1, .int .i64 y.2.1, .int .i64 y.2.2] _ rfl wo.heap.size _ _ _ _ rfl HOZ.out rfl rfl (cellsM_ok y) HLN.out HBZ.out.size ?_)
            intro v7 w7 ho7 hb7 hg7
            obtain ⟨d7, c7, hv7, _⟩ := ho7.shape
            have HR7 : Hid (InR wo x o (j + 1) _ _ v7 w7) := ⟨HIZ.out, by first | (rw [List.map_append]; exact ho7) | (simpa [cellsM] using ho7), HBZ.out.trans hb7⟩
            subst hv7
            clear ho7 hb7 hg7 y0 y1 y2
            go_wp2
            go_roundg (vn - (j + 1))
            case measure => omega
            case rel => exact ⟨j + 1, _, _, _, _, _, by go_num, rfl, rfl, by omega, Nat.le_refl _, HR7⟩
        · have hjz : ¬ (j : Int) < (vn : Int) := by omega
          have HEND : Hid ((if dz then nz else nz ++ [x]) = ins x o) := HR2.out.ist.end (by have := HVN.out; omega)
          have HLZ : Hid (nz.length ≤ 65) := by have := HR2.out.ist.len; have := HVN.out; show nz.length ≤ 65; omega
          have HST : Hid (bestF kq (l.take (i + 1)) = (ins x o).take kq) := by
            show _ = _
            rw [bestF_take _ _ _ _ HX.out, HO.out]
            rfl
          have HIL : Hid ((ins x o).length = vn + 1) := by show _ = _; rw [ins_len, HVN.out]
          cases dz
          · obtain ⟨a0, a1, a2⟩ : wr.cell? ⟨g1, off + i * 3, none⟩ = some (.string x.1) ∧ wr.cell? ⟨g1, off + i * 3 + 1, none⟩ = some (.int .i64 x.2.1) ∧ wr.cell? ⟨g1, off + i * 3 + 2, none⟩ = some (.int .i64 x.2.2) := ⟨(HR2.out.bel.cell (p := ⟨g1, off + i * 3, none⟩) hg1).trans HC1.out.1, (HR2.out.bel.cell (p := ⟨g1, off + i * 3 + 1, none⟩) hg1).trans HC1.out.2.1, (HR2.out.bel.cell (p := ⟨g1, off + i * 3 + 2, none⟩) hg1).trans HC1.out.2.2⟩
            have HLN2 : Hid ((nz.map cellsM).length < 1099511627776) := by show _ < _; rw [List.length_map]; have := HLZ.out; omega
            go_upto_region 17 with (at_builtin; refine append_g rtyM (by rfl) _ _ [.string x.1, .int .i64 x.2.1, .int .i64 x.2.2] _ rfl wo.heap.size _ _ _ _ rfl HR2.out.row rfl rfl (cellsM_ok x) HLN2.out HR2.out.bel.size ?_; intro vq wz hoq hbq hgq; obtain ⟨dq, nq2, cq, hvq⟩ : ∃ d n c, vq = .slice d n c := (by obtain ⟨d, c, e, _⟩ := hoq.shape; exact ⟨d, _, c, e⟩); have HOZ : Hid (GOwn 23 3 wo.heap.size wz vq ((ins x o).map cellsM)) := (by rw [← HEND.out]; show GOwn _ _ _ _ _ ((nz ++ [x]).map cellsM); rw [List.map_append]; exact hoq); have HBZ : Hid (Below wo.heap.size wo wz) := HR2.out.bel.trans hbq; clear hoq hbq hgq; subst hvq)
            clear a0 a1 a2
            have hnq : nq2 = vn + 1 := by
              obtain ⟨ad', cap', e, _⟩ := HOZ.out.shape
              simp only [Value.slice.injEq, List.length_map] at e
              rw [e.2.1]; exact HIL.out
            obtain ⟨gq, cq', hvq, hgq, hloq, hcq, _⟩ := HOZ.out.cell (by rw [List.length_map, HIL.out]; omega)
            simp only [Value.slice.injEq] at hvq
            obtain ⟨hvq1, hvq2, hvq3⟩ := hvq
            subst hvq1
            rw [← hvq3, List.length_map, HIL.out] at hcq
            clear hvq2 hvq3
            have HBW : Hid (Below w.heap.size w wz) := HB.out.trans (HBZ.out.mono HB.out.size)
            clear hgq hloq
            by_cases hcut : kq < nq2
            · have hcz : (kq : Int) < (nq2 : Int) := by omega
              have hkc : (kq : Int) ≤ (cq : Int) := by omega
              have hc0 : ¬ cq = 0 := by omega
              have HNEW : Hid (GOwn 23 3 w.heap.size wz (.slice (some ⟨gq, 0, none⟩) kq cq) ((bestF kq (l.take (i + 1))).map cellsM)) := by
                have := GOwn.cut HOZ.out kq (by rw [List.length_map, HIL.out]; exact hnq) (by omega)
                rw [← List.map_take, ← HST.out] at this
                exact GOwn.mono this HB.out.size
              clear hnq hcut
              go_wp2
              go_roundg (n - (i + 1))
              case measure => omega
              case rel => exact ⟨i + 1, _, _, _, by go_num, rfl, by omega, Nat.le_refl _, HNEW.out, HBW.out⟩
            · have hcz : ¬ (kq : Int) < (nq2 : Int) := by omega
              have HNEW : Hid (GOwn 23 3 w.heap.size wz (.slice (some ⟨gq, 0, none⟩) nq2 cq) ((bestF kq (l.take (i + 1))).map cellsM)) := by
                have := HOZ.out
                show GOwn _ _ _ _ _ _
                rw [HST.out, List.take_of_length_le (by rw [HIL.out]; omega)]
                exact GOwn.mono this HB.out.size
              clear hnq hcut
              go_wp2
              go_roundg (n - (i + 1))
              case measure => omega
              case rel => exact ⟨i + 1, _, _, _, by go_num, rfl, by omega, Nat.le_refl _, HNEW.out, HBW.out⟩
          · obtain ⟨wz, hwz⟩ : ∃ wz, wz = wr := ⟨_, rfl⟩
            subst hwz
            have HOZ : Hid (GOwn 23 3 wo.heap.size wz (.slice nd nn nc) ((ins x o).map cellsM)) := by have := HR2.out.row; rw [← HEND.out]; exact this
            have HBZ : Hid (Below wo.heap.size wo wz) := HR2.out.bel
            obtain ⟨dq, hdq⟩ : ∃ dq, dq = nd := ⟨_, rfl⟩
            subst hdq
            obtain ⟨nq2, hdq⟩ : ∃ dq, dq = nn := ⟨_, rfl⟩
            subst hdq
            obtain ⟨cq, hdq⟩ : ∃ dq, dq = nc := ⟨_, rfl⟩
            subst hdq
            go_upto_region 17 with fail
            have hnq : nq2 = vn + 1 := by
              obtain ⟨ad', cap', e, _⟩ := HOZ.out.shape
              simp only [Value.slice.injEq, List.length_map] at e
              rw [e.2.1]; exact HIL.out
            obtain ⟨gq, cq', hvq, hgq, hloq, hcq, _⟩ := HOZ.out.cell (by rw [List.length_map, HIL.out]; omega)
            simp only [Value.slice.injEq] at hvq
            obtain ⟨hvq1, hvq2, hvq3⟩ := hvq
            subst hvq1
            rw [← hvq3, List.length_map, HIL.out] at hcq
            clear hvq2 hvq3
            have HBW : Hid (Below w.heap.size w wz) := HB.out.trans (HBZ.out.mono HB.out.size)
            clear hgq hloq
            by_cases hcut : kq < nq2
            · have hcz : (kq : Int) < (nq2 : Int) := by omega
              have hkc : (kq : Int) ≤ (cq : Int) := by omega
              have hc0 : ¬ cq = 0 := by omega
              have HNEW : Hid (GOwn 23 3 w.heap.size wz (.slice (some ⟨gq, 0, none⟩) kq cq) ((bestF kq (l.take (i + 1))).map cellsM)) := by
                have := GOwn.cut HOZ.out kq (by rw [List.length_map, HIL.out]; exact hnq) (by omega)
                rw [← List.map_take, ← HST.out] at this
                exact GOwn.mono this HB.out.size
              clear hnq hcut
              go_wp2
              go_roundg (n - (i + 1))
              case measure => omega
              case rel => exact ⟨i + 1, _, _, _, by go_num, rfl, by omega, Nat.le_refl _, HNEW.out, HBW.out⟩
            · have hcz : ¬ (kq : Int) < (nq2 : Int) := by omega
              have HNEW : Hid (GOwn 23 3 w.heap.size wz (.slice (some ⟨gq, 0, none⟩) nq2 cq) ((bestF kq (l.take (i + 1))).map cellsM)) := by
                have := HOZ.out
                show GOwn _ _ _ _ _ _
                rw [HST.out, List.take_of_length_le (by rw [HIL.out]; omega)]
                exact GOwn.mono this HB.out.size
              clear hnq hcut
              go_wp2
              go_roundg (n - (i + 1))
              case measure => omega
              case rel => exact ⟨i + 1, _, _, _, by go_num, rfl, by omega, Nat.le_refl _, HNEW.out, HBW.out⟩
    · have hkn : i = n := by omega
      subst hkn
      have HE : Hid (l.take i = l) := List.take_of_length_le (by have := HN.out; omega)
      go_wp2
      go_ret
      have hr := HR.out.1
      rw [HE.out] at hr
      exact ⟨_, rfl, hr, HR.out.2⟩
set_option maxHeartbeats 4000000 in
theorem same12_any (w : World) (u v : Value) (l : List Mt) (h1 : MRow w u l) (h2 : MRow w v l) (hl : l.length < 549755813888) :
    Calls Try.prog 13 #[u, v] w fun e w' => e = .returned (.bool true) ∧ ∃ q, w' = w.drewN q := by
  obtain ⟨ad1, cap1, rfl⟩ := h1.form
  obtain ⟨ad2, cap2, rfl⟩ := h2.form
  have HR1 : Hid (MRow w (.slice ad1 l.length cap1) l) := h1
  have HR2 : Hid (MRow w (.slice ad2 l.length cap2) l) := h2
  obtain ⟨n1, hn1⟩ : ∃ n, l.length = n := ⟨_, rfl⟩
  have HN : Hid (l.length = n1) := hn1
  rw [hn1] at HR1 HR2 hl
  rw [hn1]
  clear h1 h2 hn1
  have hneb : ((n1 : Int) == (n1 : Int)) = true := beq_self_eq_true _
  go_enter Try.func13, Try.ntmps13
  go_wp2
  go_loopg [5] n1 (fun g s5 wr => ∃ (k q : Nat), s5 = .int .i64 k ∧ k ≤ n1 ∧ n1 - k ≤ g ∧ wr = w.drewN q)
  case atStart => exact ⟨0, 0, rfl, Nat.zero_le _, by omega, rfl⟩
  case round =>
    obtain ⟨k, q, rfl, hk, hg, hwr⟩ := hrel
    by_cases hlt : k < n1
    · have hltz : (k : Int) < (n1 : Int) := by omega
      obtain ⟨x, hx⟩ : ∃ x, l[k]? = some x := ⟨l[k]'(by have := HN.out; omega), List.getElem?_eq_getElem _⟩
      obtain ⟨b1, off1, rfl, hb1, hc1⟩ := HR1.out.at (by have := HN.out; omega)
      obtain ⟨b2, off2, rfl, hb2, hc2⟩ := HR2.out.at (by have := HN.out; omega)
      obtain ⟨c0, c1, c2⟩ := hc1 k x hx
      obtain ⟨d0, d1, d2⟩ := hc2 k x hx
      have c0' : wr.cell? ⟨b1, off1 + k * 3, none⟩ = some (.string x.1) := by rw [hwr]; exact c0
      have c1' : wr.cell? ⟨b1, off1 + k * 3 + 1, none⟩ = some (.int .i64 x.2.1) := by rw [hwr]; exact c1
      have c2' : wr.cell? ⟨b1, off1 + k * 3 + 2, none⟩ = some (.int .i64 x.2.2) := by rw [hwr]; exact c2
      have d0' : wr.cell? ⟨b2, off2 + k * 3, none⟩ = some (.string x.1) := by rw [hwr]; exact d0
      have d1' : wr.cell? ⟨b2, off2 + k * 3 + 1, none⟩ = some (.int .i64 x.2.1) := by rw [hwr]; exact d1
      have d2' : wr.cell? ⟨b2, off2 + k * 3 + 2, none⟩ = some (.int .i64 x.2.2) := by rw [hwr]; exact d2
      have HW : Hid (wr = w.drewN q) := hwr
      have s1 : (x.1.toList == x.1.toList) = true := by simp
      have s2 : (x.2.1 == x.2.1) = true := by simp
      have s3 : (x.2.2 == x.2.2) = true := by simp
      clear c0 c1 c2 d0 d1 d2 hc1 hc2 hx hwr
      go_wp2_with fail
      go_quiet (fail)
      go_wp2_with fail
      go_roundg (n1 - (k + 1))
      case measure => omega
      case rel => exact ⟨k + 1, _, by go_num, by omega, Nat.le_refl _, by rw [HW.out, World.drewN_drewN]⟩
    · have hkn : k = n1 := by omega
      have hnlt : ¬ (k : Int) < (n1 : Int) := by omega
      clear hk
      go_wp2_with fail
      go_ret
      exact ⟨rfl, q, rfl⟩
end Bt
end Go.Proofs.Ytmpfcdffpjocnaa
