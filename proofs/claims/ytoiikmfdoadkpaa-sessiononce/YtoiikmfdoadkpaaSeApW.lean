/- SessionApart. -/
import Derived.Test.YtoiikmfdoadkpaaSeAllW
import Derived.Test.YtoiikmfdoadkpaaSeClone
namespace Go.Proofs.Ytoiikmfdoadkpaa
open Go.RowKit Go.Lib
set_option maxRecDepth 100000
namespace Se
theorem keep_len (l : List Rw) (id seq : Int) (a : An) : (keepL l id seq a).length = l.length := by
  unfold keepL
  split
  · rw [List.length_set]
  · rfl
/-- What is kept in one session doesn't bear on another one. -/
theorem chk_other (l : List Rw) (i j s t : Int) (a : An) (h : i ≠ j) : chk (keepL l j t a) i s = chk l i s := by
  unfold chk
  have hh : hasB (keepL l j t a) i = hasB l i := by unfold hasB; rw [keep_len]
  rw [hh]
  cases hb : hasB l i with
  | false => rfl
  | true =>
    have he : el (keepL l j t a) (i - 1).toNat = el l (i - 1).toNat := by
      unfold keepL
      split
      · next hk =>
        unfold keepB at hk
        rw [Bool.and_eq_true] at hk
        have hj := hk.1
        unfold hasB at hj hb
        rw [decide_eq_true_eq] at hj hb
        rw [el_set l _ _ _ (by omega), if_neg (by omega)]
      · rfl
    rw [he]
attribute [local go_sem ↓] exec_load_A exec_store_A exec_load_O exec_store_O
/-- The two calls' blocks. -/
structure ApW (q : Nat) (a b : Oo) (w : World) : Prop where
  ba : w.heap[q]? = some (.cells (cellsO a).toArray 34)
  bb : w.heap[q + 1]? = some (.cells (cellsO b).toArray 34)
theorem ApW.upd {q : Nat} {a b : Oo} {w w' : World} {F : Nat → Prop} (h : ApW q a b w) (u : Upd F w w') (hF : ∀ k, k < q + 1 + 1 → ¬ F k) : ApW q a b w' :=
  ⟨(u.block _ (lt_of_heap h.ba) (hF _ (by omega))).trans h.ba, (u.block _ (lt_of_heap h.bb) (hF _ (by omega))).trans h.bb⟩
theorem ApW.below {q : Nat} {a b : Oo} {w w' : World} (h : ApW q a b w) (hb : Below w.heap.size w w') : ApW q a b w' := h.upd (F := fun _ => False) (upd_of_below hb) (fun _ _ h => h)
theorem o_cells {w : World} {q : Nat} {o : Oo} (h : w.heap[q]? = some (.cells (cellsO o).toArray 34)) : w.cell? ⟨q, 1, none⟩ = some (.int .u64 o.2.1) ∧ w.cell? ⟨q, 2, none⟩ = some (.int .u64 o.2.2.1) ∧ loadA Try.prog (.pointer (some ⟨q, 3, none⟩)) w = .ok (valA o.2.2.2) w := by
  refine ⟨by simp [World.cell?, h, cellsO], by simp [World.cell?, h, cellsO], loadA_at (fun j u hj => ?_)⟩
  have h := cat_new h (3 + j) u (by
    match j, hj with
    | 0, hj => simpa [cellsO, cellsA] using hj
    | 1, hj => simpa [cellsO, cellsA] using hj
    | 2, hj => simpa [cellsO, cellsA] using hj
    | n + 3, hj => simp [cellsA] at hj)
  rwa [Nat.zero_add] at h
/-- A call on a table and a new document's. -/
theorem ap_round {B p : Nat} {wr : World} {v : Value} {l : List Rw} (T : TAt B wr p v l) (hB : B ≤ wr.heap.size) (hl : l.length ≤ 5000) (o : Oo) :
    ∃ W1, storeO Try.prog (.pointer (some ⟨wr.heap.size, 0, none⟩)) (valO o) (wr.alloc zO) = .ok () W1 ∧ loadO Try.prog (.pointer (some ⟨wr.heap.size, 0, none⟩)) W1 = .ok (valO o) W1 ∧
      Calls Try.prog 11 #[.pointer (some ⟨p, 0, none⟩), .agg #[.int .u64 0, .slice none 0 0], valO o] W1 fun e w3 => ∃ r v', e = .returned r ∧ Hid (TAt B w3 p v' (doL l o) ∧ Below B wr w3) := by
  obtain ⟨W1, hs1, hb1, hc1⟩ := new_storeO wr o
  have T1 := T.below hb1
  have S1 : DSt B W1 p v l (0, none, 0, 0) 0 [] := ⟨T1, kat_nil _, fun g hg => by simp [tvs, Value.ownBlock] at hg⟩
  refine ⟨W1, hs1, own_loadO hc1, (does_any B W1 p v l (0, none, 0, 0) 0 [] o S1 (by omega) (by omega) (by simp)).mono ?_⟩
  rintro e w3 ⟨ad, n, c, v', rfl, S3, u3, _⟩
  have z1 := hb1.size
  exact ⟨_, v', rfl, S3.tab, (hb1.mono hB).trans (u3.below (fun k hk => TF.low T1 hk) (by omega))⟩
/-- Behind the first Check: its answer x lies in block c. -/
structure Ap4 (w0 : World) (B q c : Nat) (v : Value) (l : List Rw) (a b : Oo) (x : An) (w : World) : Prop where
  tab : TAt B w B v l
  bx : ApW q a b w
  low : Below w0.heap.size w0 w
  size : w0.heap.size ≤ B
  bs : B ≤ w.heap.size
  slot : w.heap[c]? = some (.cells (cellsA x).toArray 32)
  free : ¬ TF B v c
theorem Ap4.below {w0 : World} {B q c : Nat} {v : Value} {l : List Rw} {a b : Oo} {x : An} {w w' : World} (h : Ap4 w0 B q c v l a b x w) (hb : Below w.heap.size w w') : Ap4 w0 B q c v l a b x w' :=
  ⟨h.tab.below hb, h.bx.below hb, h.low.trans (hb.mono h.low.size), h.size, Nat.le_trans h.bs hb.size, heap_own hb (lt_of_heap h.slot) h.slot, h.free⟩
theorem Ap4.kept {w0 : World} {B q c : Nat} {v : Value} {l l2 : List Rw} {a b : Oo} {x : An} {w w' : World} (h : Ap4 w0 B q c v l a b x w) (hT : TAt B w' B v l2) (u : Upd (TF B v) w w') (hq : q + 1 + 1 ≤ B) : Ap4 w0 B q c v l2 a b x w' :=
  ⟨hT, h.bx.upd u (fun k hk hF => by have := TF.low h.tab hF; omega), h.low.trans (u.below (fun k hk => by have := TF.low h.tab hk; have := h.size; omega) h.low.size), h.size, Nat.le_trans h.bs u.size, (u.block c (lt_of_heap h.slot) h.free).trans h.slot, h.free⟩
theorem ap_first {w0 wr w3 : World} {B q : Nat} {v : Value} {l : List Rw} {a b : Oo} (T : TAt B wr B v l) (hA : ApW q a b wr) (hb : Below w0.heap.size w0 wr) (h0 : w0.heap.size ≤ B) (hB : B ≤ wr.heap.size) (hb3 : Below wr.heap.size wr w3) (x : An) :
    ∃ W4, storeA Try.prog (.pointer (some ⟨w3.heap.size, 0, none⟩)) (valA x) (w3.alloc zA) = .ok () W4 ∧ Hid (Ap4 w0 B q w3.heap.size v l a b x W4) := by
  obtain ⟨W4, hs4, hb4, hc4⟩ := new_storeA w3 x
  have h34 : Below wr.heap.size wr W4 := hb3.trans (hb4.mono hb3.size)
  have z := hb.size
  have z3 := hb3.size
  have z4 := hb4.size
  exact ⟨W4, hs4, T.below h34, hA.below h34, hb.trans (h34.mono hb.size), h0, by omega, hc4, fun hF => by have := TF.here T hF; omega⟩
/-- Behind the second one, and alive. -/
theorem ap_last {w0 w8 w9 : World} {B q c : Nat} {v : Value} {l : List Rw} {a b : Oo} {x : An} (h : Ap4 w0 B q c v l a b x w8) (hb9 : Below w8.heap.size w8 w9) :
    ∃ W10, storeA Try.prog (.pointer (some ⟨w9.heap.size, 0, none⟩)) (valA x) (w9.alloc zA) = .ok () W10 ∧ Hid (∀ w11, Below W10.heap.size W10 w11 → loadA Try.prog (.pointer (some ⟨c, 0, none⟩)) w11 = .ok (valA x) w11 ∧ loadA Try.prog (.pointer (some ⟨w9.heap.size, 0, none⟩)) w11 = .ok (valA x) w11 ∧ Hid (Below w0.heap.size w0 w11)) := by
  obtain ⟨W10, hs, hb, hc⟩ := new_storeA w9 x
  have h10 : Below w8.heap.size w8 W10 := hb9.trans (hb.mono hb9.size)
  refine ⟨W10, hs, fun w11 hb11 => ?_⟩
  have H := (h.below h10).below hb11
  exact ⟨own_loadA H.slot, own_loadA (heap_own hb11 (lt_of_heap hc) hc), H.low⟩
theorem eqAA (x1 x2 x3 : Int) (w : World) : (binOp .eql 32 (.agg #[.int .i64 x1, .int .u64 x2, .int .i64 x3]) (.agg #[.int .i64 x1, .int .u64 x2, .int .i64 x3])).run Try.prog w = .ok (.bool true) w := by
  simp [go_sem]
set_option maxHeartbeats 1000000 in
theorem apart_walk (v : Value) (a b : Oo) (w : World) (os : List Oo) (hR : GRow w.heap.size 6 w v (os.map cellsO)) (hl : os.length ≤ 4398046511104) : Calls Try.prog 7 #[v, valO a, valO b] w fun e w' => e = .returned (.bool true) ∧ Below w.heap.size w w' := by
  have HA := fun W => alive_any W
  obtain ⟨a0, c0, rfl⟩ := hR.shape
  obtain ⟨n, hn⟩ : ∃ n, os.length = n := ⟨_, rfl⟩
  have HN : Hid (os.length = n) := hn
  rw [List.length_map, hn] at hR ⊢
  rw [hn] at hl
  have HR : Hid (GRow w.heap.size 6 w (.slice a0 n c0) (os.map cellsO)) := hR
  obtain ⟨q0, hq0⟩ : ∃ q, w.heap.size = q := ⟨_, rfl⟩
  obtain ⟨V1, hV1⟩ : ∃ V1, w.alloc (.cells (cellsO a).toArray 34) = V1 := ⟨_, rfl⟩
  have hb1 : Below w.heap.size w V1 := by rw [← hV1]; exact (Below.refl _ w).alloc (Nat.le_refl _) _
  have hn1 : V1.heap[q0]? = some (.cells (cellsO a).toArray 34) := by rw [← hV1, ← hq0]; exact alloc_newM _ _
  have e1 : V1.heap.size = q0 + 1 := by rw [← hV1, ← hq0]; simp
  obtain ⟨V2, hV2⟩ : ∃ V2, V1.alloc (.cells (cellsO b).toArray 34) = V2 := ⟨_, rfl⟩
  have hb2 : Below V1.heap.size V1 V2 := by rw [← hV2]; exact (Below.refl _ V1).alloc (Nat.le_refl _) _
  have hn2 : V2.heap[q0 + 1]? = some (.cells (cellsO b).toArray 34) := by rw [← hV2, ← e1]; exact alloc_newM _ _
  have e2 : V2.heap.size = q0 + 1 + 1 := by rw [← hV2, ← e1]; simp
  have HV : Hid (ApW q0 a b V2 ∧ Below w.heap.size w V2 ∧ V2.heap.size = q0 + 1 + 1 ∧ w.heap.size = q0) := ⟨⟨heap_own hb2 (by omega) hn1, hn2⟩, hb1.trans (hb2.mono (by omega)), e2, hq0⟩
  obtain ⟨B, HB, HNW⟩ := new_B V2
  clear hR hn hb1 hn1 hb2 hn2 
  simp only [cellsO] at hV1 hV2
  unfold valO
  by_cases hlen : n ≤ 5000
  · have hz : ¬ (5000 : Int) < (n : Int) := by omega
    go_enter Try.func7, Try.ntmps7
    go_wp2_with (go_at_call 9; go_loud (refine HNW.mono ?_; rintro e w1 ⟨rfl, hT1, hb1⟩; have H1 : Hid (TAt B w1 B (.slice none 0 0) [] ∧ Below B V2 w1) := ⟨hT1, hb1⟩; clear hT1 hb1 HNW))
    clear hV1 hV2 e1 e2
    go_loopg [9, 32] n (fun g _ s32 wr => ∃ (k : Nat), s32 = .int .i64 k ∧ k ≤ n ∧ n - k ≤ g ∧ Hid (∃ l v, TAt B wr B v l ∧ l.length ≤ k ∧ Below B V2 wr))
    case atStart => exact ⟨0, rfl, Nat.zero_le _, by omega, [], _, H1.out.1, by simp, H1.out.2⟩
    case round =>
      obtain ⟨k, rfl, hk, hg, HP⟩ := hrel
      obtain ⟨l, v, hT, hll, hbb⟩ := HP.out
      have hwr : Below w.heap.size w wr := HV.out.2.1.trans (hbb.mono (by have h1 := HV.out.2.1.size; have := HB.out; omega))
      have hBz : B ≤ wr.heap.size := by have := hbb.size; have := HB.out; omega
      by_cases hlt : k < n
      · have hltz : (k : Int) < (n : Int) := by omega
        have HLT : Hid (k < n) := hlt
        obtain ⟨o, ho⟩ : ∃ o, os[k]? = some o := ⟨os[k]'(by have := HN.out; omega), List.getElem?_eq_getElem _⟩
        obtain ⟨W1, hs1, hldO, HC⟩ := ap_round hT hBz (by omega) o
        obtain ⟨g1, off, rfl, hg1, hc⟩ := grow_open (HR.out.below hwr) (by rw [List.length_map, HN.out]; omega)
        have hxm : (os.map cellsO)[k]? = some (cellsO o) := by rw [List.getElem?_map, ho]; rfl
        have hld : loadO Try.prog (.pointer (some ⟨g1, off + k * 6, none⟩)) wr = .ok (valO o) wr := loadO_at (fun j u hj => hc k j _ u hxm hj)
        have HLL : Hid ((doL l o).length ≤ k + 1 ∧ Below B V2 wr) := ⟨by have := doL_len l o; omega, hbb⟩
        clear hc hxm hT hll hbb hwr hBz HP
        unfold valO at hs1 hldO hld HC
        unfold zO at hs1
        go_wp2_with (go_at_call 11; go_loud (refine HC.mono ?_; rintro e w3 ⟨r, v5, rfl, H3⟩))
        go_roundg (n - (k + 1))
        case measure => have := HLT.out; omega
        case rel => exact ⟨k + 1, by go_num, HLT.out, Nat.le_refl _, _, v5, H3.out.1, HLL.out.1, HLL.out.2.trans H3.out.2⟩
      · have hltz : ¬ (k : Int) < (n : Int) := by omega
        obtain ⟨R, hR⟩ : ∃ R, chk l a.2.1 a.2.2.1 = R := ⟨_, rfl⟩
        have HRR : Hid (chk l a.2.1 a.2.2.1 = R) := hR
        have hAW := HV.out.1.upd (F := fun k => B ≤ k) ⟨hbb.os, hbb.tape, hbb.output, hbb.size, fun k hk hF => hbb.block k (by omega)⟩ (fun k hk hF => by have := HV.out.2.2.1; have := HB.out; omega)
        obtain ⟨ca1, ca2, cla⟩ := o_cells hAW.ba
        have HS : Hid (TAt B wr B v l ∧ l.length ≤ 5000 ∧ Below w.heap.size w wr ∧ B ≤ wr.heap.size ∧ ApW q0 a b wr) := ⟨hT, by omega, hwr, hBz, hAW⟩
        have HC1 := Check_any B wr B v l a.2.1 a.2.2.1 hT (by omega)
        rw [hR] at HC1
        clear hT hll hbb hwr hBz HP hR hAW cla
        obtain ⟨⟨x1, x2, x3⟩, g5, f5⟩ := R
        unfold chkV valA at HC1
        simp only at HC1
        have hee := fun W => eqAA x1 x2 x3 W
        have HSB : Hid (w.heap.size ≤ B ∧ q0 + 1 + 1 ≤ B) := ⟨by have := HV.out.2.1.size; have := HB.out; omega, by have := HV.out.2.2.1; have := HB.out; omega⟩
        obtain ⟨ka, ia, sa, aa⟩ := a
        obtain ⟨kb, ib, sb, ab⟩ := b
        simp only at ca1 ca2 HC1 HRR
        by_cases hne : ia = ib
        · subst hne
          go_wp2_with (first
            | (go_at_call 17; refine HC1.mono ?_; rintro e w3 ⟨rfl, hb3⟩; go_loud (obtain ⟨W4, hs4, H4⟩ := ap_first HS.out.1 HS.out.2.2.2.2 HS.out.2.2.1 HSB.out.1 HS.out.2.2.2.1 hb3 (x1, x2, x3); unfold valA zA at hs4; simp only at hs4; clear hb3 HC1))
            | (go_at_call 19; go_loud (refine (Clone_any B W4 B v l H4.out.tab (by have := HS.out.2.1; omega)).mono ?_; rintro e w5 ⟨q5, v5, rfl, hT5, hb5⟩; obtain ⟨da1, da2, dla⟩ := o_cells (H4.out.bx.below hb5).ba; have H5 : Hid (TAt W4.heap.size w5 q5 v5 l ∧ Below W4.heap.size W4 w5) := ⟨hT5, hb5⟩; unfold valA at dla; simp only at da1 da2 dla; clear hT5 hb5))
            | (go_at_call 18; refine (Keep_any W4.heap.size w5 q5 v5 l ia sa aa H5.out.1 (by have := HS.out.2.1; omega)).mono ?_; rintro e w6 ⟨rfl, hT6, hu6⟩; go_loud (have H6 : Hid (TAt W4.heap.size w6 q5 v5 (keepL l ia sa aa) ∧ Below W4.heap.size W4 w6) := ⟨hT6, H5.out.2.trans (hu6.below (fun k hk => TF.low H5.out.1 hk) H5.out.2.size)⟩; clear hT6 hu6 H5))
            | (go_at_call 16; go_loud (refine (Open_any W4.heap.size w6 q5 v5 _ H6.out.1 (by rw [keep_len]; have := HS.out.2.1; omega)).mono ?_; rintro e w7 ⟨rfl, v7, _, hu7, _⟩; have hb7 : Below W4.heap.size W4 w7 := H6.out.2.trans (hu7.below (fun k hk => TF.low H6.out.1 hk) H6.out.2.size); have h7 := H4.out.below hb7; obtain ⟨ea1, ea2, _⟩ := o_cells h7.bx.ba; obtain ⟨eb1, eb2, elb⟩ := o_cells h7.bx.bb; have H7 : Hid (Ap4 w B q0 w3.heap.size v l _ _ (x1, x2, x3) w7) := h7; unfold valA at elb; simp only at ea1 ea2 eb1 eb2 elb; clear hu7 hb7 h7))
            | (go_at_call 10; go_loud (refine (HA _).mono ?_; rintro e w11 ⟨rfl, hb11⟩; obtain ⟨m1, m2, HEE⟩ := HLS.out w11 hb11; unfold valA at m1 m2; simp only at m1 m2; clear hb11))
            | (go_at_call 17; go_loud (refine (Check_any B w7 B v l ia sa H7.out.tab (by have := HS.out.2.1; omega)).mono ?_; rintro e w9 ⟨he, hb9⟩; rw [HRR.out] at he; subst he; obtain ⟨W10, hs10, HLS⟩ := ap_last H7.out hb9; unfold valA zA at hs10; unfold chkV valA; simp only at hs10 ⊢; clear hb9)))
          go_ret
          exact ⟨rfl, HEE.out⟩
        · have hnq : (ia == ib) = false := by simpa using hne
          have HNE : Hid (ia ≠ ib) := hne
          clear hne
          go_wp2_with (first
            | (go_at_call 17; refine HC1.mono ?_; rintro e w3 ⟨rfl, hb3⟩; go_loud (obtain ⟨W4, hs4, H4⟩ := ap_first HS.out.1 HS.out.2.2.2.2 HS.out.2.2.1 HSB.out.1 HS.out.2.2.2.1 hb3 (x1, x2, x3); unfold valA zA at hs4; simp only at hs4; clear hb3 HC1))
            | (go_at_call 19; go_loud (refine (Clone_any B W4 B v l H4.out.tab (by have := HS.out.2.1; omega)).mono ?_; rintro e w5 ⟨q5, v5, rfl, hT5, hb5⟩; obtain ⟨da1, da2, dla⟩ := o_cells (H4.out.bx.below hb5).ba; have H5 : Hid (TAt W4.heap.size w5 q5 v5 l ∧ Below W4.heap.size W4 w5) := ⟨hT5, hb5⟩; unfold valA at dla; simp only at da1 da2 dla; clear hT5 hb5))
            | (go_at_call 18; refine (Keep_any W4.heap.size w5 q5 v5 l ia sa aa H5.out.1 (by have := HS.out.2.1; omega)).mono ?_; rintro e w6 ⟨rfl, hT6, hu6⟩; go_loud (have H6 : Hid (TAt W4.heap.size w6 q5 v5 (keepL l ia sa aa) ∧ Below W4.heap.size W4 w6) := ⟨hT6, H5.out.2.trans (hu6.below (fun k hk => TF.low H5.out.1 hk) H5.out.2.size)⟩; clear hT6 hu6 H5))
            | (go_at_call 16; go_loud (refine (Open_any W4.heap.size w6 q5 v5 _ H6.out.1 (by rw [keep_len]; have := HS.out.2.1; omega)).mono ?_; rintro e w7 ⟨rfl, v7, _, hu7, _⟩; have hb7 : Below W4.heap.size W4 w7 := H6.out.2.trans (hu7.below (fun k hk => TF.low H6.out.1 hk) H6.out.2.size); have h7 := H4.out.below hb7; obtain ⟨ea1, ea2, _⟩ := o_cells h7.bx.ba; obtain ⟨eb1, eb2, elb⟩ := o_cells h7.bx.bb; have H7 : Hid (Ap4 w B q0 w3.heap.size v l _ _ (x1, x2, x3) w7) := h7; unfold valA at elb; simp only at ea1 ea2 eb1 eb2 elb; clear hu7 hb7 h7))
            | (go_at_call 10; go_loud (refine (HA _).mono ?_; rintro e w11 ⟨rfl, hb11⟩; obtain ⟨m1, m2, HEE⟩ := HLS.out w11 hb11; unfold valA at m1 m2; simp only at m1 m2; clear hb11))
            | (go_at_call 18; go_loud (refine (Keep_any B w7 B v l ib sb ab H7.out.tab (by have := HS.out.2.1; omega)).mono ?_; rintro e w8 ⟨rfl, hT8, hu8⟩; have h8 := H7.out.kept hT8 hu8 HSB.out.2; obtain ⟨fa1, fa2, _⟩ := o_cells h8.bx.ba; simp only at fa1 fa2; have H8 : Hid (Ap4 w B q0 w3.heap.size v (keepL l ib sb ab) _ _ (x1, x2, x3) w8) := h8; clear hT8 hu8 h8))
            | (go_at_call 17; go_loud (refine (Check_any B w8 B v _ ia sa H8.out.tab (by rw [keep_len]; have := HS.out.2.1; omega)).mono ?_; rintro e w9 ⟨he, hb9⟩; rw [chk_other _ _ _ _ _ _ HNE.out, HRR.out] at he; subst he; obtain ⟨W10, hs10, HLS⟩ := ap_last H8.out hb9; unfold valA zA at hs10; unfold chkV valA; simp only at hs10 ⊢; clear hb9)))
          go_ret
          exact ⟨rfl, HEE.out⟩
  · have hz : (5000 : Int) < (n : Int) := by omega
    go_enter Try.func7, Try.ntmps7
    go_wp2_with (first
      | (go_at_call 9; go_loud (refine HNW.mono ?_; rintro e w1 ⟨rfl, hT1, hb1⟩; have HB1 : Hid (Below w.heap.size w w1) := HV.out.2.1.trans (hb1.mono (by have := HV.out.2.1.size; have := HB.out; omega)); clear hT1 hb1 HNW))
      | (go_at_call 10; go_loud (refine (HA _).mono ?_; rintro e w3 ⟨rfl, hb3⟩; have HE : Hid (Below w.heap.size w w3) := HB1.out.trans (hb3.mono HB1.out.size))))
    go_ret
    exact ⟨rfl, by first | exact HE.out | (rw [← hq0]; exact HE.out)⟩
end Se
end Go.Proofs.Ytoiikmfdoadkpaa
