/- SessionOnce. -/
import Derived.Test.YtoiikmfdoadkpaaSeOnM
import Derived.Test.YtoiikmfdoadkpaaSePlay
import Derived.Test.YtoiikmfdoadkpaaSeAlive
import Derived.Test.YtoiikmfdoadkpaaSeApW
namespace Go.Proofs.Ytoiikmfdoadkpaa
open Go.RowKit Go.Lib
set_option maxRecDepth 100000
namespace Se
theorem rtyO : RTy 34 22 6 48 := ⟨by kernel_rfl, ⟨.agg #[.int .i64 0, .int .u64 0, .int .u64 0, .int .i64 0, .int .u64 0, .int .i64 0], by kernel_rfl, rfl⟩, by decide, by decide⟩
theorem cellsO_ok (m : Oo) : Cells 6 (cellsO m) := ⟨rfl, by intro u hu; simp [cellsO] at hu; rcases hu with rfl | rfl | rfl | rfl | rfl | rfl <;> rfl⟩
attribute [local go_sem ↓] exec_load_A exec_store_A exec_load_O exec_store_O
/-- The table at B, what was done in dv. -/
structure OnW (B : Nat) (w0 : World) (l : List Rw) (ds : List Oo) (v dv : Value) (w : World) : Prop where
  tab : TAt B w B v l
  own : GOwn 34 6 (B + 1) w dv (ds.map cellsO)
  low : Below w0.heap.size w0 w
  size : w0.heap.size ≤ B
  bs : B + 1 ≤ w.heap.size
  once : Onc l ds
theorem OnW.ap {B : Nat} {w0 w : World} {l : List Rw} {ds : List Oo} {v dv : Value} (h : OnW B w0 l ds v dv w) {g : Nat} (hg : dv.ownBlock = some g) : ¬ TF B v g := fun hk => by
  obtain ⟨h1, cur, h2⟩ := h.own.block hg
  rcases hk with rfl | hk
  · omega
  · obtain ⟨_, cur2, h3⟩ := h.tab.row.block hk
    rw [h2] at h3
    simp only [Option.some.injEq, Obj.cells.injEq] at h3
    exact absurd h3.2.1 (by decide)
theorem OnW.below {B : Nat} {w0 w w' : World} {l : List Rw} {ds : List Oo} {v dv : Value} (h : OnW B w0 l ds v dv w) (hb : Below w.heap.size w w') : OnW B w0 l ds v dv w' :=
  ⟨h.tab.below hb, h.own.below hb, h.low.trans (hb.mono h.low.size), h.size, Nat.le_trans h.bs hb.size, h.once⟩
theorem OnW.upd {B : Nat} {w0 w w' : World} {l : List Rw} {ds : List Oo} {v dv : Value} (h : OnW B w0 l ds v dv w) (u : Upd (TF B v) w w') : Below w0.heap.size w0 w' ∧ B + 1 ≤ w'.heap.size ∧ GOwn 34 6 (B + 1) w' dv (ds.map cellsO) :=
  ⟨h.low.trans (u.below (fun k hk => by have := TF.low h.tab hk; have := h.size; omega) h.low.size), Nat.le_trans h.bs u.size, GOwn.upd h.own u (fun g hg hk => h.ap hg hk)⟩
theorem neqAA (x1 x2 x3 : Int) (w : World) : (binOp .neq 32 (.agg #[.int .i64 x1, .int .u64 x2, .int .i64 x3]) (.agg #[.int .i64 x1, .int .u64 x2, .int .i64 x3])).run Try.prog w = .ok (.bool false) w := by
  simp [go_sem]
/-- What came in and what was answered lie in blocks q and c. -/
structure OnS (B : Nat) (w0 : World) (l : List Rw) (ds : List Oo) (v dv : Value) (q c : Nat) (o : Oo) (x : An) (w : World) : Prop where
  on : OnW B w0 l ds v dv w
  bo : w.heap[q]? = some (.cells (cellsO o).toArray 34)
  bx : w.heap[c]? = some (.cells (cellsA x).toArray 32)
theorem OnS.below {B : Nat} {w0 w w' : World} {l : List Rw} {ds : List Oo} {v dv : Value} {q c : Nat} {o : Oo} {x : An} (h : OnS B w0 l ds v dv q c o x w) (hb : Below w.heap.size w w') : OnS B w0 l ds v dv q c o x w' :=
  ⟨h.on.below hb, heap_own hb (lt_of_heap h.bo) h.bo, heap_own hb (lt_of_heap h.bx) h.bx⟩
/-- A row of what was done. -/
theorem OnW.row {B : Nat} {w0 w : World} {l : List Rw} {ds : List Oo} {v : Value} {da : Option Addr} {dn dc : Nat} (h : OnW B w0 l ds v (.slice da dn dc) w) {j : Nat} {y : Oo} (hy : ds[j]? = some y) : ∃ g, da = some ⟨g, 0, none⟩ ∧ j < dc ∧ loadO Try.prog (.pointer (some ⟨g, j * 6, none⟩)) w = .ok (valO y) w := by
  have hj := (List.getElem?_eq_some_iff.1 hy).1
  obtain ⟨g, cap, hv, hg, _, hcap, hc⟩ := h.own.cell (by rw [List.length_map]; omega)
  simp only [Value.slice.injEq, List.length_map] at hv hcap
  obtain ⟨rfl, _, rfl⟩ := hv
  exact ⟨g, rfl, by omega, loadO_at (fun i u hi => hc j i _ u (by rw [List.getElem?_map, hy]; rfl) hi)⟩
/-- The last one so far, in block e. -/
structure OnL (B : Nat) (w0 : World) (l : List Rw) (ds : List Oo) (v dv : Value) (q c e : Nat) (o : Oo) (x : An) (z : Oo) (w : World) : Prop where
  s : OnS B w0 l ds v dv q c o x w
  be : w.heap[e]? = some (.cells (cellsO z).toArray 34)
theorem OnL.below {B : Nat} {w0 w w' : World} {l : List Rw} {ds : List Oo} {v dv : Value} {q c e : Nat} {o : Oo} {x : An} {z : Oo} (h : OnL B w0 l ds v dv q c e o x z w) (hb : Below w.heap.size w w') : OnL B w0 l ds v dv q c e o x z w' :=
  ⟨h.s.below hb, heap_own hb (lt_of_heap h.be) h.be⟩
/-- Another one is stored there: e is a block of its own. -/
theorem OnL.put {B : Nat} {w0 w : World} {l : List Rw} {ds : List Oo} {v dv : Value} {q c e : Nat} {o : Oo} {x : An} {z : Oo} (h : OnL B w0 l ds v dv q c e o x z w) (hq : q < e) (hc : c < e) (hB : B < e) (hv : ∀ g, v.ownBlock = some g → g < e) (hd : ∀ g, dv.ownBlock = some g → g < e) (y : Oo) :
    ∃ W, storeO Try.prog (.pointer (some ⟨e, 0, none⟩)) (valO y) w = .ok () W ∧ Hid (OnL B w0 l ds v dv q c e o x y W) := by
  obtain ⟨W, hst, u, hcW⟩ := own_storeO (ys := cellsO z) rfl h.be y
  have hsz := lt_of_heap h.be
  have hon := h.s.on
  refine ⟨W, hst, ⟨⟨hon.tab.upd u (fun k hk e2 => ?_), GOwn.upd hon.own u (fun g hg e2 => by have := hd g hg; have : g = e := e2; omega), hon.low.trans (u.below (fun k e2 => by have : k = e := e2; have := hon.size; omega) hon.low.size), hon.size, Nat.le_trans hon.bs u.size, hon.once⟩, (u.block q (lt_of_heap h.s.bo) (by show ¬ q = e; omega)).trans h.s.bo, (u.block c (lt_of_heap h.s.bx) (by show ¬ c = e; omega)).trans h.s.bx⟩, hcW⟩
  have e3 : k = e := e2
  rcases hk with rfl | hk
  · omega
  · have := hv k hk; omega
set_option maxHeartbeats 2000000 in
theorem once_walk (v : Value) (w : World) (os : List Oo) (hR : GRow w.heap.size 6 w v (os.map cellsO)) (hl : os.length ≤ 4398046511104) : Calls Try.prog 6 #[v] w fun e w' => e = .returned (.bool true) ∧ Below w.heap.size w w' := by
  have HA := fun W => alive_any W
  obtain ⟨a0, c0, rfl⟩ := hR.shape
  obtain ⟨n, hn⟩ : ∃ n, os.length = n := ⟨_, rfl⟩
  have HN : Hid (os.length = n) := hn
  rw [List.length_map, hn] at hR ⊢
  rw [hn] at hl
  have HR : Hid (GRow w.heap.size 6 w (.slice a0 n c0) (os.map cellsO)) := hR
  obtain ⟨B, HB, HNW⟩ := new_B w
  clear hR hn
  by_cases hlen : n ≤ 3000
  · have hz : ¬ (3000 : Int) < (n : Int) := by omega
    go_enter Try.func6, Try.ntmps6
    go_wp2_with (go_at_call 9; go_loud (refine HNW.mono ?_; rintro e w1 ⟨rfl, hT1, hb1⟩; have H1 : Hid (OnW B w [] [] (.slice none 0 0) (.slice none 0 0) w1) := ⟨hT1, GOwn.nil _ _ _ _, (show Below w.heap.size w w1 by rw [HB.out]; exact hb1), by rw [HB.out]; exact Nat.le_refl _, hT1.lt, onc_nil⟩; clear hT1 hb1 HNW))
    go_loopg [4, 6, 7, 8, 9, 10, 12, 14, 30] n (fun g s4 _ _ _ _ _ _ _ s30 wr => ∃ (k : Nat) (l : List Rw) (ds : List Oo) (v : Value) (da : Option Addr) (dn dc : Nat), s4 = .slice da dn dc ∧ s30 = .int .i64 k ∧ k ≤ n ∧ n - k ≤ g ∧ Hid (OnW B w l ds v (.slice da dn dc) wr ∧ l.length ≤ k ∧ ds.length = dn ∧ dn ≤ k))
    case atStart => exact ⟨0, [], [], _, none, 0, 0, rfl, rfl, Nat.zero_le _, by omega, H1.out, by simp, rfl, by simp⟩
    case round =>
      obtain ⟨k, l, ds, v, da, dn, dc, rfl, rfl, hk, hg, HP⟩ := hrel
      by_cases hlt : k < n
      · have hltz : (k : Int) < (n : Int) := by omega
        have HLT : Hid (k < n ∧ k ≤ 3000) := ⟨hlt, by omega⟩
        obtain ⟨o, ho⟩ : ∃ o, os[k]? = some o := ⟨os[k]'(by have := HN.out; omega), List.getElem?_eq_getElem _⟩
        obtain ⟨g1, off, rfl, hg1, hc⟩ := grow_open (HR.out.below HP.out.1.low) (by rw [List.length_map, HN.out]; omega)
        have hxm : (os.map cellsO)[k]? = some (cellsO o) := by rw [List.getElem?_map, ho]; rfl
        have hld : loadO Try.prog (.pointer (some ⟨g1, off + k * 6, none⟩)) wr = .ok (valO o) wr := loadO_at (fun j u hj => hc k j _ u hxm hj)
        obtain ⟨W1, hs1, hb1, hc1⟩ := new_storeO wr o
        have HW1 : Hid (OnW B w l ds v (.slice da dn dc) W1 ∧ W1.heap[wr.heap.size]? = some (.cells (cellsO o).toArray 34) ∧ wr.heap.size < W1.heap.size) := ⟨HP.out.1.below hb1, hc1, lt_of_heap hc1⟩
        obtain ⟨q, hq⟩ : ∃ q, wr.heap.size = q := ⟨_, rfl⟩
        have d0 : W1.cell? ⟨q, 0, none⟩ = some (.int .i64 o.1) := by rw [← hq]; simp [World.cell?, hc1, cellsO]
        obtain ⟨d1, d2, d3⟩ := o_cells hc1
        rw [hq] at HW1 d1 d2 d3 hs1
        have HQ : Hid (B ≤ q) := by have := HP.out.1.bs; show _ ≤ _; omega
        clear hc hxm ho hb1 hc1 d3
        obtain ⟨ok, oi, os1, oa⟩ := o
        unfold valO at hs1 hld
        unfold zO at hs1
        simp only at d0 d1 d2 hs1 hld
        by_cases h0 : ok = 0
        · subst h0
          go_wp2_with (go_at_call 16; go_loud (refine (Open_any B W1 B v l HW1.out.1.tab (by have := HP.out.2.1; have := HLT.out; omega)).mono ?_; rintro e w2 ⟨rfl, v2, hT2, hu2, _⟩; have hx := HW1.out.1.upd hu2; have HN2 : Hid (OnW B w (openL l) ds v2 (.slice da dn dc) w2 ∧ (openL l).length ≤ k + 1 ∧ ds.length = dn ∧ dn ≤ k + 1) := ⟨⟨hT2, hx.2.2, hx.1, HW1.out.1.size, hx.2.1, HW1.out.1.once.opened⟩, by have := HP.out.2.1; unfold openL; split <;> simp <;> omega, HP.out.2.2.1, by have := HP.out.2.2.2; omega⟩; clear hT2 hu2 hx))
          go_roundg (n - (k + 1))
          case measure => have := HLT.out; omega
          case rel => exact ⟨k + 1, _, ds, v2, da, dn, dc, rfl, by go_num, HLT.out.1, Nat.le_refl _, HN2.out⟩
        · have h0q : (ok == 0) = false := by simpa using h0
          obtain ⟨R, hR⟩ : ∃ R, chk l oi os1 = R := ⟨_, rfl⟩
          have HC1 := Check_any B W1 B v l oi os1 HW1.out.1.tab (by have := HP.out.2.1; have := HLT.out; omega)
          rw [hR] at HC1
          obtain ⟨⟨x1, x2, x3⟩, g5, f5⟩ := R
          have HRR : Hid (chk l oi os1 = ((x1, x2, x3), g5, f5)) := hR
          unfold chkV valA at HC1
          simp only at HC1
          clear hR h0
          have HPL : Hid (l.length ≤ k ∧ ds.length = dn ∧ dn ≤ k) := HP.out.2
          have HS4 : Hid (∀ w3, Below W1.heap.size W1 w3 → ∃ W4, storeA Try.prog (.pointer (some ⟨w3.heap.size, 0, none⟩)) (.agg #[.int .i64 x1, .int .u64 x2, .int .i64 x3]) (w3.alloc (.cells #[.int .i64 0, .int .u64 0, .int .i64 0] 32)) = .ok () W4 ∧ Hid (OnS B w l ds v (.slice da dn dc) q w3.heap.size (ok, oi, os1, oa) (x1, x2, x3) W4 ∧ W1.heap.size ≤ w3.heap.size ∧ q < W1.heap.size ∧ ¬ TF B v q)) := fun w3 hb3 => by
            obtain ⟨W4, hs4, hb4, hc4⟩ := new_storeA w3 (x1, x2, x3)
            have h34 : Below W1.heap.size W1 W4 := hb3.trans (hb4.mono hb3.size)
            exact ⟨W4, hs4, ⟨HW1.out.1.below h34, heap_own h34 HW1.out.2.2 HW1.out.2.1, hc4⟩, hb3.size, HW1.out.2.2, fun hk => by have := TF.here HP.out.1.tab hk; omega⟩
          by_cases hf : f5 = 0
          · subst hf
            cases g5 with
            | true =>
              have HLA : Hid ((lastO ds oi).2 = (oi, os1, x1, x2, x3)) := HP.out.1.once.again HRR.out
              have hnn := fun W => neqAA x1 x2 x3 W
              go_wp2_with (go_at_call 17; go_loud (refine HC1.mono ?_; rintro e w3 ⟨rfl, hb3⟩; obtain ⟨W4, hs4, H4⟩ := HS4.out w3 hb3; obtain ⟨W5, hW5⟩ : ∃ W5, W4.alloc zO = W5 := ⟨_, rfl⟩; obtain ⟨e4, he4⟩ : ∃ e4, W4.heap.size = e4 := ⟨_, rfl⟩; have H5 : Hid (OnL B w l ds v (.slice da dn dc) q w3.heap.size e4 (ok, oi, os1, oa) (x1, x2, x3) z0 W5 ∧ q < e4 ∧ w3.heap.size < e4 ∧ B < e4 ∧ (∀ g, v.ownBlock = some g → g < e4) ∧ (∀ g, (Value.slice da dn dc).ownBlock = some g → g < e4)) := ⟨⟨H4.out.1.below (by rw [← hW5]; exact (Below.refl _ _).alloc (Nat.le_refl _) _), by rw [← hW5, ← he4]; exact alloc_newM _ _⟩, by rw [← he4]; exact lt_of_heap H4.out.1.bo, by rw [← he4]; exact lt_of_heap H4.out.1.bx, by rw [← he4]; exact H4.out.1.on.tab.lt, fun g hg => by rw [← he4]; exact H4.out.1.on.tab.row.lt hg, fun g hg => by rw [← he4]; exact H4.out.1.on.own.lt hg⟩; unfold zO at hW5; clear hb3 HC1 HS4))
              clear hW5
              go_loopg [12, 54] dn (fun g _ s54 wr => ∃ (j : Nat), s54 = .int .i64 j ∧ j ≤ dn ∧ dn - j ≤ g ∧ Hid (OnL B w l ds v (.slice da dn dc) q w3.heap.size e4 (ok, oi, os1, oa) (x1, x2, x3) (lastO (ds.take j) oi) wr))
              case atStart => exact ⟨0, rfl, Nat.zero_le _, by omega, H5.out.1⟩
              case round =>
                obtain ⟨j, rfl, hj, hgj, HL⟩ := hrel
                by_cases hlj : j < dn
                · have hljz : (j : Int) < (dn : Int) := by omega
                  have HLJ : Hid (j < dn ∧ dn ≤ 3000) := ⟨hlj, by have := HPL.out.2.2; have := HLT.out; omega⟩
                  have hj3 : j < 3000 := Nat.lt_of_lt_of_le HLJ.out.1 HLJ.out.2
                  obtain ⟨y, hy⟩ : ∃ y, ds[j]? = some y := ⟨ds[j]'(by have := HPL.out.2.1; omega), List.getElem?_eq_getElem _⟩
                  have HST : Hid (lastO (ds.take (j + 1)) oi = pickO oi (lastO (ds.take j) oi) y) := lastO_step hy oi
                  obtain ⟨g2, rfl, hjc, hld2⟩ := HL.out.s.on.row hy
                  obtain ⟨W6, hs6, hb6, hc6⟩ := new_storeO wr y
                  obtain ⟨m1, _, _⟩ := o_cells hc6
                  have hL6 := HL.out.below hb6
                  obtain ⟨m2, _, _⟩ := o_cells hL6.s.bo
                  have hldy := own_loadO hc6
                  obtain ⟨W7, hs7, H7⟩ := hL6.put H5.out.2.1 H5.out.2.2.1 H5.out.2.2.2.1 H5.out.2.2.2.2.1 H5.out.2.2.2.2.2 y
                  have H6 : Hid (OnL B w l ds v (.slice (some ⟨g2, 0, none⟩) dn dc) q w3.heap.size e4 (ok, oi, os1, oa) (x1, x2, x3) (lastO (ds.take j) oi) W6) := hL6
                  simp only at m2
                  clear hy hb6 hc6 hL6 HL
                  unfold valO at hld2 hs6 hldy hs7
                  unfold zO at hs6
                  by_cases hyi : y.2.1 = oi
                  · rw [hyi] at m1 hld2 hs6 hldy hs7
                    go_wp2
                    go_roundg (dn - (j + 1))
                    case measure => have := HLJ.out; omega
                    case rel =>
                      refine ⟨j + 1, by go_num, HLJ.out.1, Nat.le_refl _, ?_⟩
                      show OnL _ _ _ _ _ _ _ _ _ _ _ _ _
                      rw [HST.out, pickO, if_pos hyi]
                      exact H7.out
                  · have hyq : (y.2.1 == oi) = false := by simpa using hyi
                    have HYI : Hid (¬ y.2.1 = oi) := hyi
                    clear hyi
                    go_wp2
                    go_roundg (dn - (j + 1))
                    case measure => have := HLJ.out; omega
                    case rel =>
                      refine ⟨j + 1, by go_num, HLJ.out.1, Nat.le_refl _, ?_⟩
                      show OnL _ _ _ _ _ _ _ _ _ _ _ _ _
                      rw [HST.out, pickO, if_neg HYI.out]
                      exact H6.out
                · have hljz : ¬ (j : Int) < (dn : Int) := by omega
                  have hL := HL.out
                  rw [List.take_of_length_le (by have := HPL.out.2.1; omega)] at hL
                  obtain ⟨lk, hlk⟩ : ∃ lk, lastO ds oi = (lk, oi, os1, x1, x2, x3) := ⟨(lastO ds oi).1, by rw [← HLA.out]⟩
                  rw [hlk] at hL
                  obtain ⟨m1, m2, m3⟩ := o_cells hL.be
                  obtain ⟨m4, m5, _⟩ := o_cells hL.s.bo
                  have m6 := own_loadA hL.s.bx
                  have HON : Hid (OnW B w l ds v (.slice da dn dc) wr) := hL.s.on
                  unfold valA at m3 m6
                  simp only at m1 m2 m3 m4 m5 m6
                  clear hL hlk
                  go_wp2
                  go_roundg (n - (k + 1))
                  case measure => have := HLT.out; omega
                  case rel => exact ⟨k + 1, l, ds, v, da, dn, dc, rfl, by go_num, HLT.out.1, Nat.le_refl _, HON.out, by have := HPL.out.1; omega, HPL.out.2.1, by have := HPL.out.2.2; omega⟩
            | false =>
              have HNEW : Hid (keepB l oi os1 = true ∧ ∀ x ∈ ds, ¬ (x.2.1 = oi ∧ x.2.2.1 = os1)) := HP.out.1.once.new HRR.out
              go_wp2_with (go_at_call 17; go_loud (refine HC1.mono ?_; rintro e w3 ⟨rfl, hb3⟩; obtain ⟨W4, hs4, H4⟩ := HS4.out w3 hb3; clear hb3 HC1 HS4))
              go_loopg [14, 85] dn (fun g _ s85 wr => ∃ (j : Nat), s85 = .int .i64 j ∧ j ≤ dn ∧ dn - j ≤ g ∧ Hid (OnS B w l ds v (.slice da dn dc) q w3.heap.size (ok, oi, os1, oa) (x1, x2, x3) wr))
              case atStart => exact ⟨0, rfl, Nat.zero_le _, by omega, H4.out.1⟩
              case round =>
                obtain ⟨j, rfl, hj, hgj, HL⟩ := hrel
                by_cases hlj : j < dn
                · have hljz : (j : Int) < (dn : Int) := by omega
                  have HLJ : Hid (j < dn ∧ dn ≤ 3000) := ⟨hlj, by have := HPL.out.2.2; have := HLT.out; omega⟩
                  have hj3 : j < 3000 := Nat.lt_of_lt_of_le HLJ.out.1 HLJ.out.2
                  obtain ⟨y, hy⟩ : ∃ y, ds[j]? = some y := ⟨ds[j]'(by have := HPL.out.2.1; omega), List.getElem?_eq_getElem _⟩
                  have hnot := HNEW.out.2 y (List.mem_of_getElem? hy)
                  obtain ⟨g2, rfl, hjc, hld2⟩ := HL.out.on.row hy
                  obtain ⟨W6, hs6, hb6, hc6⟩ := new_storeO wr y
                  obtain ⟨m1, m3, _⟩ := o_cells hc6
                  have hL6 := HL.out.below hb6
                  obtain ⟨m2, m4, _⟩ := o_cells hL6.bo
                  have H6 : Hid (OnS B w l ds v (.slice (some ⟨g2, 0, none⟩) dn dc) q w3.heap.size (ok, oi, os1, oa) (x1, x2, x3) W6) := hL6
                  simp only at m2 m4
                  clear hy hb6 hc6 hL6 HL
                  unfold valO at hld2 hs6
                  unfold zO at hs6
                  by_cases hyi : y.2.1 = oi
                  · have hysn : ¬ y.2.2.1 = os1 := fun e => hnot ⟨hyi, e⟩
                    have hysq : (y.2.2.1 == os1) = false := by simpa using hysn
                    rw [hyi] at m1 hld2 hs6
                    clear hnot hysn
                    go_wp2
                    go_roundg (dn - (j + 1))
                    case measure => have := HLJ.out; omega
                    case rel => exact ⟨j + 1, by go_num, HLJ.out.1, Nat.le_refl _, H6.out⟩
                  · have hyq : (y.2.1 == oi) = false := by simpa using hyi
                    clear hyi hnot
                    go_wp2
                    go_roundg (dn - (j + 1))
                    case measure => have := HLJ.out; omega
                    case rel => exact ⟨j + 1, by go_num, HLJ.out.1, Nat.le_refl _, H6.out⟩
                · have hljz : ¬ (j : Int) < (dn : Int) := by omega
                  obtain ⟨m1, m2, m3⟩ := o_cells HL.out.bo
                  unfold valA at m3
                  simp only at m1 m2 m3
                  have hlen : (ds.map cellsO).length = ds.length := List.length_map _
                  go_wp2_with (first
                    | (go_at_call 18; go_loud (refine (Keep_any B wr B v l oi os1 oa HL.out.on.tab (by have := HPL.out.1; have := HLT.out; omega)).mono ?_; rintro e w8 ⟨he, hT8, hu8⟩; rw [HNEW.out.1] at he; subst he; have hx := HL.out.on.upd hu8; have hbo : w8.heap[q]? = some (.cells (cellsO (ok, oi, os1, oa)).toArray 34) := (hu8.block q (lt_of_heap HL.out.bo) H4.out.2.2.2).trans HL.out.bo; have hldo := own_loadO hbo; have H8 : Hid (TAt B w8 B v (keepL l oi os1 oa) ∧ Below w.heap.size w w8 ∧ B + 1 ≤ w8.heap.size ∧ GOwn 34 6 (B + 1) w8 (.slice da dn dc) (ds.map cellsO) ∧ (∀ g, (Value.slice da dn dc).ownBlock = some g → ¬ TF B v g) ∧ w.heap.size ≤ B ∧ Onc (keepL l oi os1 oa) (ds ++ [(ok, oi, os1, oa)])) := ⟨hT8, hx.1, hx.2.1, hx.2.2, fun g hg => HL.out.on.ap hg, HL.out.on.size, HL.out.on.once.kept (ok, oi, os1, oa) HNEW.out.1⟩; unfold valO at hldo; simp only at hldo; clear hT8 hu8 hx hbo))
                    | (at_builtin; go_loud (refine append_g2 rtyO (by rfl) _ _ (cellsO (ok, oi, os1, oa)) _ rfl (B + 1) _ _ _ (ds.map cellsO) rfl H8.out.2.2.2.1 rfl rfl (cellsO_ok _) (by rw [hlen]; have := HPL.out; have := HLT.out; omega) H8.out.2.2.1 ?_; intro v' w9 hG hgr hob; obtain ⟨da2, dc2, hv2, _⟩ := hG.shape; rw [List.length_append, List.length_map, HPL.out.2.1, List.length_singleton] at hv2; subst hv2)))
                  have u9 : Upd (fun k => (Value.slice da dn dc).ownBlock = some k) w8 w9 := (upd_of_below ((Below.refl _ w8).alloc (Nat.le_refl _) _)).grown hgr (fun _ _ e => e)
                  have HE : Hid (OnW B w (keepL l oi os1 oa) (ds ++ [(ok, oi, os1, oa)]) v (.slice da2 (dn + 1) dc2) w9) := by
                    obtain ⟨h1, h2, h3, h4, h5, h6, h7⟩ := H8.out
                    refine ⟨h1.upd u9 (fun k hk e => h5 k e hk), ?_, h2.trans (u9.below (fun k e => by have := (h4.block e).1; omega) h2.size), h6, Nat.le_trans h3 u9.size, h7⟩
                    rw [List.map_append]
                    exact hG
                  clear u9 hG hgr hob
                  go_roundg (n - (k + 1))
                  case measure => have := HLT.out; omega
                  case rel => exact ⟨k + 1, _, _, v, da2, dn + 1, dc2, rfl, by go_num, HLT.out.1, Nat.le_refl _, HE.out, by rw [keep_len]; have := HPL.out.1; omega, by rw [List.length_append, HPL.out.2.1]; rfl, by have := HPL.out.2.2; omega⟩
          · have hfq : (f5 == 0) = false := by simpa using hf
            clear hf
            go_wp2_with (go_at_call 17; go_loud (refine HC1.mono ?_; rintro e w3 ⟨rfl, hb3⟩; obtain ⟨W4, hs4, H4⟩ := HS4.out w3 hb3; clear hb3 HC1 HS4))
            go_roundg (n - (k + 1))
            case measure => have := HLT.out; omega
            case rel => exact ⟨k + 1, l, ds, v, da, dn, dc, rfl, by go_num, HLT.out.1, Nat.le_refl _, H4.out.1.on, by have := HPL.out.1; omega, HPL.out.2.1, by have := HPL.out.2.2; omega⟩
      · have hltz : ¬ (k : Int) < (n : Int) := by omega
        go_wp2_with (go_at_call 10; go_loud (refine (HA _).mono ?_; rintro e w3 ⟨rfl, hb3⟩; have HE : Hid (Below w.heap.size w w3) := HP.out.1.low.trans (hb3.mono HP.out.1.low.size); clear hb3))
        go_ret
        exact ⟨rfl, HE.out⟩
  · have hz : (3000 : Int) < (n : Int) := by omega
    go_enter Try.func6, Try.ntmps6
    go_wp2_with (first
      | (go_at_call 9; go_loud (refine HNW.mono ?_; rintro e w1 ⟨rfl, hT1, hb1⟩; have HB1 : Hid (Below w.heap.size w w1) := (show Below w.heap.size w w1 by rw [HB.out]; exact hb1); clear hT1 hb1 HNW))
      | (go_at_call 10; go_loud (refine (HA _).mono ?_; rintro e w3 ⟨rfl, hb3⟩)))
    go_ret
    exact ⟨rfl, HB1.out.trans (hb3.mono HB1.out.size)⟩
end Se
end Go.Proofs.Ytoiikmfdoadkpaa
