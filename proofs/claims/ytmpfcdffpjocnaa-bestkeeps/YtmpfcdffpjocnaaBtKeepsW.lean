/- BestKeeps: the law's own walk. -/
import Derived.Test.YtmpfcdffpjocnaaBtFewW
namespace Go.Proofs.Ytmpfcdffpjocnaa
open Go.RowKit Go.Lib Nums Pm
set_option maxRecDepth 100000
namespace Bt
theorem MRow.pre {w : World} {g off n cap : Nat} {l : List Mt} (h : MRow w (.slice (some ⟨g, off, none⟩) n cap) l) (j c : Nat) (hj : j ≤ l.length) : MRow w (.slice (some ⟨g, off, none⟩) j c) (l.take j) := by
  refine ⟨some ⟨g, off, none⟩, c, by simp; omega, fun h0 => ?_⟩
  rw [List.length_map, List.length_take] at h0
  obtain ⟨ad', cap', hv, hc⟩ := h.ex
  obtain ⟨g', off', e, hg, hx⟩ := hc (by rw [List.length_map]; omega)
  simp only [Value.slice.injEq] at hv
  rw [e] at hv
  simp only [Option.some.injEq, Addr.mk.injEq, and_true] at hv
  obtain ⟨⟨rfl, rfl⟩, _, _⟩ := hv
  refine ⟨g, off, rfl, hg, fun i q x u hi hq => hx i q x u ?_ hq⟩
  rw [List.map_take, List.getElem?_take] at hi
  split at hi
  · exact hi
  · cases hi
theorem SeR.below {w : World} {p : Nat} {k : Int} {l : List Mt} {j : Nat} {wr W : World} {h : List Mt} {vk : Value} (R : SeR w p k l j wr h vk) (hb : Below wr.heap.size wr W) : SeR w p k l j W h vk := ⟨R.K.below hb, R.kp, R.bel.trans (hb.mono R.bel.size)⟩
theorem SeR.len {w : World} {p : Nat} {k : Int} {l : List Mt} {j : Nat} {wr : World} {h : List Mt} {vk : Value} (R : SeR w p k l j wr h vk) : h.length = (bestF (kk k) (l.take j)).length := R.kp.same_len
/-- The worst one is the last. -/
theorem SeR.last {w : World} {p : Nat} {k : Int} {l : List Mt} {j : Nat} {wr : World} {h : List Mt} {vk : Value} (R : SeR w p k l j wr h vk) {q : Nat} (hq : (bestF (kk k) (l.take j)).length = q + 1) : el (bestF (kk k) (l.take j)) q = el h 0 := by
  obtain ⟨ini, e⟩ := R.kp.worst (by rw [R.len]; omega)
  rw [e] at hq ⊢
  have : ini.length = q := by simpa using hq
  rw [← this, el_last]
/-- What the last test of a round looks at. -/
structure SLa (xb g a : Nat) (x y : Mt) (W : World) : Prop where
  a0 : W.cell? ⟨xb, 0, none⟩ = some (.string x.1)
  a1 : W.cell? ⟨xb, 1, none⟩ = some (.int .i64 x.2.1)
  a2 : W.cell? ⟨xb, 2, none⟩ = some (.int .i64 x.2.2)
  b0 : W.cell? ⟨g, a, none⟩ = some (.string y.1)
  b1 : W.cell? ⟨g, a + 1, none⟩ = some (.int .i64 y.2.1)
  b2 : W.cell? ⟨g, a + 2, none⟩ = some (.int .i64 y.2.2)
theorem SLa.facts {xb g a : Nat} {x y : Mt} {W : World} (h : SLa xb g a x y W) : W.cell? ⟨xb, 0, none⟩ = some (.string x.1) ∧ W.cell? ⟨xb, 1, none⟩ = some (.int .i64 x.2.1) ∧ W.cell? ⟨xb, 2, none⟩ = some (.int .i64 x.2.2) ∧ W.cell? ⟨g, a, none⟩ = some (.string y.1) ∧ W.cell? ⟨g, a + 1, none⟩ = some (.int .i64 y.2.1) ∧ W.cell? ⟨g, a + 2, none⟩ = some (.int .i64 y.2.2) := ⟨h.a0, h.a1, h.a2, h.b0, h.b1, h.b2⟩
/-- What is known behind 'want' in a round: the match lies in block mb. -/
structure RdR (w : World) (p : Nat) (k : Int) (l : List Mt) (j mb : Nat) (x : Mt) (h : List Mt) (vk : Value) (wz : World) : Prop where
  R : SeR w p k l j wz h vk
  S : SAdd mb x wz
theorem RdR.below {w : World} {p : Nat} {k : Int} {l : List Mt} {j mb : Nat} {x : Mt} {h : List Mt} {vk : Value} {wz W : World} (H : RdR w p k l j mb x h vk wz) (hb : Below wz.heap.size wz W) : RdR w p k l j mb x h vk W :=
  ⟨H.R.below hb, by unfold SAdd; rw [hb.block mb (Array.getElem?_eq_some_iff.1 H.S).1]; exact H.S⟩
theorem SLa.below {xb g a : Nat} {x y : Mt} {W W' : World} (h : SLa xb g a x y W) (h1 : xb < W.heap.size) (h2 : g < W.heap.size) (hb : Below W.heap.size W W') : SLa xb g a x y W' :=
  ⟨(hb.cell (p := ⟨xb, 0, none⟩) h1).trans h.a0, (hb.cell (p := ⟨xb, 1, none⟩) h1).trans h.a1, (hb.cell (p := ⟨xb, 2, none⟩) h1).trans h.a2, (hb.cell (p := ⟨g, a, none⟩) h2).trans h.b0, (hb.cell (p := ⟨g, a + 1, none⟩) h2).trans h.b1, (hb.cell (p := ⟨g, a + 2, none⟩) h2).trans h.b2⟩
theorem exec_neM (ρ : Operand → Value) (x y : Operand) (dst : Option Tmp) (ty : TypeId) (pos : String) (af : Array Edge) (g : Option (Nat × Bool)) (w : World) (m : Mt) (hx : ρ x = valM m) (hy : ρ y = valM m) :
    (execOp ρ ⟨dst, .binOp .neq 23 x y 23, ty, pos, af, g⟩).run Try.prog w = .ok (.value (.bool false)) w := by
  unfold execOp
  simp [hx, hy, valM, go_sem]
theorem exec_sub1 (ρ : Operand → Value) (x : Operand) (dst : Option Tmp) (ty : TypeId) (pos : String) (af : Array Edge) (g : Option (Nat × Bool)) (w : World) (a b : Int) (hx : ρ x = .int .i64 a) (hc : ρ (.const (.int .i64 1)) = .int .i64 1) (hb : IntKind.i64.wrap (a - 1) = b) :
    (execOp ρ ⟨dst, .binOp .sub 3 x (.const (.int .i64 1)) 3, ty, pos, af, g⟩).run Try.prog w = .ok (.value (.int .i64 b)) w := by
  subst hb
  unfold execOp
  simp [hx, hc, go_sem]
attribute [local go_sem ↓] exec_load_M exec_store_M
set_option maxHeartbeats 4000000 in
theorem keeps_walk (v : Value) (k : Int) (w : World) (l : List Mt) (h : MRow w v l) (hs : ∀ x ∈ l, SmM x) (hl : l.length ≤ 4398046511104) (hvc : ∃ ad cap, v = .slice ad l.length cap ∧ l.length ≤ cap) (_ : -9223372036854775808 ≤ k ∧ k ≤ 9223372036854775807) :
    Calls Try.prog 6 #[v, .int .i64 k] w fun e w' => e = .returned (.bool true) ∧ Below w.heap.size w w' := by
  have HSM : Hid (∀ x ∈ l, SmM x) := hs
  obtain ⟨ad, cap, rfl, hcap⟩ := hvc
  obtain ⟨n, hn⟩ : ∃ n, l.length = n := ⟨_, rfl⟩
  rw [hn] at h hl hcap ⊢
  have HROW : Hid (MRow w (.slice ad n cap) l) := h
  have HN : Hid (l.length = n) := hn
  obtain ⟨km, hkm⟩ : ∃ km, max k 0 = km := ⟨_, rfl⟩
  have hmn : min km 64 = (kk k : Int) := by rw [← hkm]; unfold kk; omega
  have hk64 : kk k ≤ 64 := by unfold kk; omega
  have HNEW : Hid (Calls Try.prog 16 #[.int .i64 k] w fun e w' => e = .returned (.pointer (some ⟨w.heap.size, 0, none⟩)) ∧ KAt w.heap.size w' w.heap.size (min k 64) (.slice none 0 0) [] ∧ Below w.heap.size w w') := New_any w k
  obtain ⟨p, hp⟩ : ∃ p, w.heap.size = p := ⟨_, rfl⟩
  rw [hp] at HNEW
  have HP : Hid (w.heap.size = p) := hp
  clear h hn hs hp
  go_enter Try.func6, Try.ntmps6
  go_upto_region 4 with (first
    | (go_at_call 16; refine HNEW.out.mono ?_; rintro e w1 ⟨rfl, hK1, hb1⟩; have HR1 : Hid (SeR w p k l 0 w1 [] (.slice none 0 0)) := ⟨(by rw [HP.out]; exact hK1), (by rw [List.take_zero]; exact Kp.nil _), (by rw [HP.out]; exact hb1)⟩; clear hK1 hb1)
    | (go_at_call 10; refine (alive_any w1).mono ?_; rintro e w2 ⟨rfl, hb2⟩; have HR2 : Hid (∃ h vk, SeR w p k l 0 w2 h vk) := ⟨_, _, HR1.out.below hb2⟩; clear hb2))
  by_cases h300 : (300 : Int) < (n : Int)
  · go_wp2
    go_ret
    obtain ⟨_, _, hR⟩ := HR2.out
    exact ⟨rfl, hR.bel⟩
  · go_wp2
    go_loopg [30] n (fun g s30 wr => ∃ (j : Nat), s30 = .int .i64 j ∧ j ≤ n ∧ n - j ≤ g ∧ Hid (∃ h vk, SeR w p k l j wr h vk))
    case atStart => exact ⟨0, rfl, Nat.zero_le _, by omega, HR2⟩
    case round =>
      obtain ⟨j, rfl, hjn, hg, HR⟩ := hrel
      obtain ⟨h', vk, hR⟩ := HR.out
      have HS : Hid (SeR w p k l j wr h' vk) := hR
      have HB : Hid (Below w.heap.size w wr) := hR.bel
      clear hR HR
      by_cases hlt : j < n
      · have hltz : (j : Int) < (n : Int) := by omega
        have hjc : (j : Int) ≤ (cap : Int) := by omega
        have hjc1 : (j : Int) + 1 ≤ (cap : Int) := by omega
        have hc0 : ¬ cap = 0 := by omega
        obtain ⟨x, hx⟩ : ∃ x, l[j]? = some x := ⟨l[j]'(by have := HN.out; omega), List.getElem?_eq_getElem _⟩
        have HX : Hid (l[j]? = some x) := hx
        have HSX : Hid (SmM x) := HSM.out x (List.mem_of_getElem? hx)
        obtain ⟨g0, off, hgo, hg0, hc1⟩ := (HROW.out.below HB.out).at (by have := HN.out; omega)
        subst hgo
        obtain ⟨x0, x1, x2⟩ := hc1 j x hx
        obtain ⟨W3, hst, hbW, hld2, hcW⟩ := new_store wr x
        obtain ⟨mb, hmb⟩ : ∃ mb, wr.heap.size = mb := ⟨_, rfl⟩
        rw [hmb] at hst hld2 hcW
        have HZ3 : Hid (RdR w p k l j mb x h' vk W3) := ⟨HS.out.below hbW, hcW⟩
        have hst' : storeM Try.prog (.pointer (some ⟨mb, 0, none⟩)) (valM x) (wr.alloc (.cells #[.string ⟨#[]⟩, .int .i64 0, .int .i64 0] 23)) = .ok () W3 := hst
        have hldx : loadM Try.prog (.pointer (some ⟨g0, off + j * 3, none⟩)) wr = .ok (valM x) wr := loadM_at x0 x1 x2
        clear hx hc1 hbW hcW hg0 hst x0 x1 x2 hld2
        go_upto_region 11 with (go_at_call 15; refine (refBest_any W3 _ (l.take j) k ((HROW.out.below HZ3.out.R.bel).pre j cap (by have := HN.out; omega)) (fun y hy => HSM.out y (List.mem_of_mem_take hy)) (by rw [List.length_take]; have := HN.out; omega)).mono ?_; rintro e w4 ⟨v4, rfl, hg4, hb4⟩; have HZ4 : Hid (RdR w p k l j mb x h' vk w4) := HZ3.out.below hb4; have HG4 : Hid (GOwn 23 3 W3.heap.size w4 v4 ((bestF (kk k) (l.take j)).map cellsM)) := hg4; clear hg4 hb4)
        obtain ⟨ol, hol⟩ : ∃ ol, (bestF (kk k) (l.take j)).length = ol := ⟨_, rfl⟩
        have HOL : Hid ((bestF (kk k) (l.take j)).length = ol) := hol
        have HOM : Hid (ol = min (kk k) j) := by show ol = min (kk k) j; rw [← hol, bestF_len, List.length_take]; have := HN.out; omega
        obtain ⟨ad4, cap4, hv4, hcap4⟩ := HG4.out.shape
        rw [List.length_map, hol] at hv4 hcap4
        subst hv4
        have HNLE : Hid (min (kk k) (j + 1) = (bestF (kk k) (l.take (j + 1))).length) := by show _ = _; rw [bestF_len, List.length_take]; have := HN.out; omega
        clear hol hst' hldx
        by_cases hA : ol < kk k
        · have hAz : (ol : Int) < (kk k : Int) := by omega
          have HWB : Hid (wantB (kk k) (bestF (kk k) (l.take j)) x = true) := wantB_room x (by rw [HOL.out]; exact hA)
          go_quiet (fail)
          obtain ⟨wz, hwz⟩ : ∃ wz, wz = w4.drewN nq := ⟨_, rfl⟩
          have hbz : Below w4.heap.size w4 wz := by rw [hwz]; exact belowN (Below.refl _ _) nq
          have HZ : Hid (RdR w p k l j mb x h' vk wz) := HZ4.out.below hbz
          rw [← hwz]
          clear hwz hbz
          have HSEP : Hid (∀ g, wz.heap.size ≤ g → ¬ KF p vk g) := fun g hg f => by
            rcases f with e | e
            · have := HZ.out.R.K.lt; omega
            · have := HZ.out.R.K.row.lt e; omega
          go_upto_region 13 with (go_at_call 15; refine (refBest_any wz _ (l.take (j + 1)) k ((HROW.out.below HZ.out.R.bel).pre (j + 1) cap (by have := HN.out; omega)) (fun y hy => HSM.out y (List.mem_of_mem_take hy)) (by rw [List.length_take]; have := HN.out; omega)).mono ?_; rintro e w6 ⟨v6, rfl, hg6, hb6⟩; have HZ6 : Hid (RdR w p k l j mb x h' vk w6) := HZ.out.below hb6; have HG6 : Hid (GOwn 23 3 wz.heap.size w6 v6 ((bestF (kk k) (l.take (j + 1))).map cellsM)) := hg6; clear hg6 hb6)
          obtain ⟨N, hN⟩ : ∃ N, bestF (kk k) (l.take (j + 1)) = N := ⟨_, rfl⟩
          have HNN : Hid (bestF (kk k) (l.take (j + 1)) = N) := hN
          rw [hN] at HG6
          obtain ⟨nl, hnl⟩ : ∃ nl, N.length = nl := ⟨_, rfl⟩
          have HNL : Hid (N.length = nl) := hnl
          obtain ⟨ad6, cap6, hv6, hcap6⟩ := HG6.out.shape
          rw [List.length_map, hnl] at hv6 hcap6
          subst hv6
          have hnl64 : nl ≤ 64 := by have := best_small k (l.take (j + 1)); rw [hN, hnl] at this; exact this
          clear hN hnl
          have lm6 := own_load HZ6.out.S
          have HAD : Hid (Calls Try.prog 17 #[.pointer (some ⟨p, 0, none⟩), valM x] w6 fun e w' => e = .returned (.bool true) ∧ AddSays w.heap.size w6 w' p (min k 64) vk (bestF (kk k) (l.take j)) x) := by
            have := Add_any w.heap.size w6 p (min k 64) vk h' _ x HZ6.out.R.K HZ6.out.R.kp (by omega)
            rw [show (min k 64).toNat = kk k from rfl, HWB.out] at this
            exact this
          go_upto_region 15 with (first
            | (go_at_call 17; refine HAD.out.mono ?_; rintro e w7 ⟨rfl, hA⟩; obtain ⟨h7, v7, hR7⟩ := HZ6.out.R.step (Below.refl _ _) HX.out hA; have HR7 : Hid (SeR w p k l (j + 1) w7 h7 v7) := hR7; have hL7 : h7.length = nl := (by rw [hR7.len, HNN.out, HNL.out]); have HG7 : Hid (GOwn 23 3 wz.heap.size w7 (.slice ad6 nl cap6) (N.map cellsM)) := GOwn.upd HG6.out hA.up (fun g hg f => HSEP.out g (HG6.out.block hg).1 f); clear hR7 hA)
            | (go_at_call 18; refine (Klen_any w.heap.size w7 p (min k 64) v7 h7 HR7.out.K).mono ?_; rintro e w8 ⟨rfl, hw8⟩; replace hw8 := hw8.symm; subst hw8; rw [hL7]))
          clear lm6
          have hnlp : 0 < nl := by have := HNLE.out; rw [HNN.out, HNL.out] at this; omega
          obtain ⟨q7, hq7⟩ : ∃ q7, nl = q7 + 1 := ⟨nl - 1, by omega⟩
          obtain ⟨y7, hy7⟩ : ∃ y, el h7 0 = y := ⟨_, rfl⟩
          have HEL : Hid (el N q7 = y7) := by
            have := HR7.out.last (q := q7) (by rw [HNN.out, HNL.out]; exact hq7)
            rw [HNN.out, hy7] at this
            exact this
          have HWO : Hid (Calls Try.prog 19 #[.pointer (some ⟨p, 0, none⟩)] w7 fun e w' => e = .returned (.tuple #[valM y7, .bool true]) ∧ Below w7.heap.size w7 w') := by
            have := Worst_any w.heap.size w7 p (min k 64) v7 h7 HR7.out.K
            rw [hy7, decide_eq_true (by omega)] at this
            exact this
          have HQ7 : Hid (nl = q7 + 1) := hq7
          clear hy7 HAD hq7
          go_upto_region 16 with (go_at_call 19; refine HWO.out.mono ?_; rintro e w9 ⟨rfl, hb9⟩; obtain ⟨W9, hst9, hbW9, hld9, hcW9⟩ := new_store w9 y7; have HB9 : Hid (Below w7.heap.size w7 W9) := hb9.trans (hbW9.mono hb9.size); clear hb9 hbW9 hld9)
          obtain ⟨xb, hxb⟩ : ∃ xb, w9.heap.size = xb := ⟨_, rfl⟩
          rw [hxb] at hcW9
          rw [hxb]
          clear hst9 hxb
          obtain ⟨g6, c6, hv6, hg6l, _, _, hc6⟩ := GOwn.mt (HG7.out.below HB9.out) (by have := HNL.out; have := HQ7.out; omega)
          simp only [Value.slice.injEq] at hv6
          obtain ⟨hv61, hv62, hv63⟩ := hv6
          subst hv61
          obtain ⟨r0, r1, r2, _⟩ := hc6 q7 (by have := HNL.out; have := HQ7.out; omega)
          rw [HEL.out] at r0 r1 r2
          obtain ⟨t0, t1, t2⟩ := own_cells hcW9
          have hS9 : SLa xb g6 (q7 * 3) y7 y7 W9.drew := ⟨t0, t1, t2, r0, r1, r2⟩
          have hqi : (nl : Int) - 1 = (q7 : Int) := by have := HQ7.out; omega
          have hqw : IntKind.i64.wrap ((nl : Int) - 1) = (q7 : Int) := by have := HQ7.out; rw [IntKind.wrap_i64]; omega
          have hq7z : (q7 : Int) < (nl : Int) := by have := HQ7.out; omega
          have hnl0 : (0 : Int) < (nl : Int) := by have := HQ7.out; omega
          clear hv62 hv63 hc6 r0 r1 r2 t0 t1 t2
          refine region_at (S := SLa xb g6 (q7 * 3) y7 y7) 18 rfl mixedB hS9 (fun _ => ?_)
          refine take_at (i := 0) 80 rfl rfl (by kernel_rfl) (by kernel_rfl) (by kernel_rfl) (fun _ _ _ h => h) (by rfl) (fun w hSw => by (have hSw2 := id hSw; clear hSw; go_simp; first | done | exact rfl)) (by assumption) ?_
          simp only [List.setIfInBounds_toArray, List.set_cons_zero, List.set_cons_succ]
          refine take_at (i := 1) 81 rfl rfl (by kernel_rfl) (by kernel_rfl) (by kernel_rfl) (fun _ _ _ h => h) (by rfl) (fun w hSw => by (have hSw2 := id hSw; clear hSw; go_simp; first | done | exact rfl)) (by assumption) ?_
          simp only [List.setIfInBounds_toArray, List.set_cons_zero, List.set_cons_succ]
          refine take_at (i := 2) 82 rfl rfl (by kernel_rfl) (by kernel_rfl) (by kernel_rfl) (fun _ _ _ h => h) (by rfl) (fun w hSw => by (have hSw2 := id hSw; clear hSw; go_simp; first | done | exact rfl)) (by assumption) ?_
          simp only [List.setIfInBounds_toArray, List.set_cons_zero, List.set_cons_succ]
          refine take_at (i := 3) (v := .bool true) 83 rfl rfl (by kernel_rfl) (by kernel_rfl) (by kernel_rfl) (fun _ _ _ h => h) (by rfl) (fun w hSw => by (have hSw2 := id hSw; clear hSw; go_simp; first | done | exact rfl | simp_all | (simp; omega))) (by assumption) ?_
          simp only [List.setIfInBounds_toArray, List.set_cons_zero, List.set_cons_succ]
          refine take_at (i := 4) (v := .bool false) 84 rfl rfl (by kernel_rfl) (by kernel_rfl) (by kernel_rfl) (fun _ _ _ h => h) (by rfl) (fun w hSw => by (have hSw2 := id hSw; clear hSw; go_simp; first | done | exact rfl | simp_all | (simp; omega))) (by assumption) ?_
          simp only [List.setIfInBounds_toArray, List.set_cons_zero, List.set_cons_succ]
          refine take_at (i := 5) 85 rfl rfl (by kernel_rfl) (by kernel_rfl) (by kernel_rfl) (fun _ _ _ h => h) (by rfl) (fun w hSw => by (have hSw2 := id hSw; clear hSw; go_simp; first | done | exact rfl)) (by assumption) ?_
          simp only [List.setIfInBounds_toArray, List.set_cons_zero, List.set_cons_succ]
          refine take_at (i := 6) 86 rfl rfl (by kernel_rfl) (by kernel_rfl) (by kernel_rfl) (fun _ _ _ h => h) (by rfl) (fun w hSw => by (have hSw2 := id hSw; clear hSw; go_simp; first | done | exact rfl)) (by assumption) ?_
          simp only [List.setIfInBounds_toArray, List.set_cons_zero, List.set_cons_succ]
          refine take_at (i := 7) 87 rfl rfl (by kernel_rfl) (by kernel_rfl) (by kernel_rfl) (fun _ _ _ h => h) (by rfl) (fun w hSw => by (have hSw2 := id hSw; clear hSw; go_simp; first | done | exact rfl)) (by assumption) ?_
          simp only [List.setIfInBounds_toArray, List.set_cons_zero, List.set_cons_succ]
          refine take_at (i := 8) (v := valM y7) 88 rfl rfl (by kernel_rfl) (by kernel_rfl) (by kernel_rfl) (fun _ _ _ h => h) (by rfl) (fun w hSw => by refine (exec_load_M _ _ _ _ _ _ _ _).trans ?_; show (loadM Try.prog (.pointer (some ⟨xb, 0, none⟩)) w).andThen _ = _; rw [loadM_at hSw.a0 hSw.a1 hSw.a2]; rfl) (by assumption) ?_
          simp only [List.setIfInBounds_toArray, List.set_cons_zero, List.set_cons_succ]
          refine take_at (i := 9) 89 rfl rfl (by kernel_rfl) (by kernel_rfl) (by kernel_rfl) (fun _ _ _ h => h) (by rfl) (fun w hSw => by (have hSw2 := id hSw; clear hSw; go_simp; first | done | exact rfl)) (by assumption) ?_
          simp only [List.setIfInBounds_toArray, List.set_cons_zero, List.set_cons_succ]
          refine take_at (i := 10) 90 rfl rfl (by kernel_rfl) (by kernel_rfl) (by kernel_rfl) (fun _ _ _ h => h) (by rfl) (fun w hSw => by (have hSw2 := id hSw; clear hSw; go_simp; first | done | exact rfl)) (by assumption) ?_
          simp only [List.setIfInBounds_toArray, List.set_cons_zero, List.set_cons_succ]
          refine take_at (i := 11) 91 rfl rfl (by kernel_rfl) (by kernel_rfl) (by kernel_rfl) (fun _ _ _ h => h) (by rfl) (fun w hSw => by (have hSw2 := id hSw; clear hSw; go_simp; first | done | exact rfl)) (by assumption) ?_
          simp only [List.setIfInBounds_toArray, List.set_cons_zero, List.set_cons_succ]
          refine take_at (i := 12) (v := .int .i64 (q7 : Int)) 92 rfl rfl (by kernel_rfl) (by kernel_rfl) (by kernel_rfl) (fun _ _ _ h => h) (by rfl) (fun w _ => exec_sub1 _ _ _ _ _ _ _ w (nl : Int) (q7 : Int) rfl rfl hqw) (by assumption) ?_
          simp only [List.setIfInBounds_toArray, List.set_cons_zero, List.set_cons_succ]
          refine take_at (i := 13) 93 rfl rfl (by kernel_rfl) (by kernel_rfl) (by kernel_rfl) (fun _ _ _ h => h) (by rfl) (fun w hSw => by (have hSw2 := id hSw; clear hSw; go_simp; first | done | exact rfl)) (by assumption) ?_
          simp only [List.setIfInBounds_toArray, List.set_cons_zero, List.set_cons_succ]
          refine take_at (i := 14) (v := valM y7) 94 rfl rfl (by kernel_rfl) (by kernel_rfl) (by kernel_rfl) (fun _ _ _ h => h) (by rfl) (fun w hSw => by refine (exec_load_M _ _ _ _ _ _ _ _).trans ?_; show (loadM Try.prog (.pointer (some ⟨g6, q7 * 3, none⟩)) w).andThen _ = _; rw [loadM_at hSw.b0 hSw.b1 hSw.b2]; rfl) (by assumption) ?_
          simp only [List.setIfInBounds_toArray, List.set_cons_zero, List.set_cons_succ]
          refine take_at (i := 15) (v := .bool false) 95 rfl rfl (by kernel_rfl) (by kernel_rfl) (by kernel_rfl) (fun _ _ _ h => h) (by rfl) (fun w _ => exec_neM _ _ _ _ _ _ _ _ w y7 rfl rfl) (by assumption) ?_
          simp only [List.setIfInBounds_toArray, List.set_cons_zero, List.set_cons_succ]
          refine take_at (i := 16) 96 rfl rfl (by kernel_rfl) (by kernel_rfl) (by kernel_rfl) (fun _ _ _ h => h) (by rfl) (fun w hSw => by (have hSw2 := id hSw; clear hSw; go_simp; first | done | exact rfl)) (by assumption) ?_
          simp only [List.setIfInBounds_toArray, List.set_cons_zero, List.set_cons_succ]
          refine take_at (i := 17) 97 rfl rfl (by kernel_rfl) (by kernel_rfl) (by kernel_rfl) (fun _ _ _ h => h) (by rfl) (fun w hSw => by (have hSw2 := id hSw; clear hSw; go_simp; first | done | exact rfl)) (by assumption) ?_
          simp only [List.setIfInBounds_toArray, List.set_cons_zero, List.set_cons_succ]
          refine wpAnyH_done (by kernel_rfl) ?_ _
          have HRE : Hid (∃ h vk, SeR w p k l (j + 1) W9.drew h vk) := ⟨_, _, HR7.out.below (HB9.out.trans (Below.refl _ W9).drew)⟩
          clear hS9
          go_wp2
          go_roundg (n - (j + 1))
          case measure => omega
          case rel => exact ⟨j + 1, by go_num, by omega, Nat.le_refl _, HRE⟩
        · have hAz : ¬ (ol : Int) < (kk k : Int) := by omega
          by_cases hk0 : kk k = 0
          · have hol0 : ol = 0 := by have := HOM.out; omega
            subst hol0
            have HWB : Hid (wantB (kk k) (bestF (kk k) (l.take j)) x = false) := by
              have hO := List.length_eq_zero_iff.1 HOL.out
              show _ = _
              rw [hO]
              exact wantB_zero x hk0
            have HK0 : Hid (kk k = 0) := hk0
            have hk1 : ¬ (0 : Int) < (kk k : Int) := by omega
            have hk2 : ¬ 0 < kk k := by omega
            clear hk0
            go_quiet (fail)
            obtain ⟨wz, hwz⟩ : ∃ wz, wz = w4.drewN nq := ⟨_, rfl⟩
            have hbz : Below w4.heap.size w4 wz := by rw [hwz]; exact belowN (Below.refl _ _) nq
            have HZ : Hid (RdR w p k l j mb x h' vk wz) := HZ4.out.below hbz
            rw [← hwz]
            clear hwz hbz
            have HSEP : Hid (∀ g, wz.heap.size ≤ g → ¬ KF p vk g) := fun g hg f => by
              rcases f with e | e
              · have := HZ.out.R.K.lt; omega
              · have := HZ.out.R.K.row.lt e; omega
            go_upto_region 13 with (go_at_call 15; refine (refBest_any wz _ (l.take (j + 1)) k ((HROW.out.below HZ.out.R.bel).pre (j + 1) cap (by have := HN.out; omega)) (fun y hy => HSM.out y (List.mem_of_mem_take hy)) (by rw [List.length_take]; have := HN.out; omega)).mono ?_; rintro e w6 ⟨v6, rfl, hg6, hb6⟩; have HZ6 : Hid (RdR w p k l j mb x h' vk w6) := HZ.out.below hb6; have HG6 : Hid (GOwn 23 3 wz.heap.size w6 v6 ((bestF (kk k) (l.take (j + 1))).map cellsM)) := hg6; clear hg6 hb6)
            obtain ⟨N, hN⟩ : ∃ N, bestF (kk k) (l.take (j + 1)) = N := ⟨_, rfl⟩
            have HNN : Hid (bestF (kk k) (l.take (j + 1)) = N) := hN
            rw [hN] at HG6
            obtain ⟨nl, hnl⟩ : ∃ nl, N.length = nl := ⟨_, rfl⟩
            have HNL : Hid (N.length = nl) := hnl
            obtain ⟨ad6, cap6, hv6, hcap6⟩ := HG6.out.shape
            rw [List.length_map, hnl] at hv6 hcap6
            subst hv6
            have hnl64 : nl ≤ 64 := by have := best_small k (l.take (j + 1)); rw [hN, hnl] at this; exact this
            clear hN hnl
            have lm6 := own_load HZ6.out.S
            have HAD : Hid (Calls Try.prog 17 #[.pointer (some ⟨p, 0, none⟩), valM x] w6 fun e w' => e = .returned (.bool false) ∧ AddSays w.heap.size w6 w' p (min k 64) vk (bestF (kk k) (l.take j)) x) := by
              have := Add_any w.heap.size w6 p (min k 64) vk h' _ x HZ6.out.R.K HZ6.out.R.kp (by omega)
              rw [show (min k 64).toNat = kk k from rfl, HWB.out] at this
              exact this
            go_upto_region 15 with (first
              | (go_at_call 17; refine HAD.out.mono ?_; rintro e w7 ⟨rfl, hA⟩; obtain ⟨h7, v7, hR7⟩ := HZ6.out.R.step (Below.refl _ _) HX.out hA; have HR7 : Hid (SeR w p k l (j + 1) w7 h7 v7) := hR7; have hL7 : h7.length = nl := (by rw [hR7.len, HNN.out, HNL.out]); have HG7 : Hid (GOwn 23 3 wz.heap.size w7 (.slice ad6 nl cap6) (N.map cellsM)) := GOwn.upd HG6.out hA.up (fun g hg f => HSEP.out g (HG6.out.block hg).1 f); clear hR7 hA)
              | (go_at_call 18; refine (Klen_any w.heap.size w7 p (min k 64) v7 h7 HR7.out.K).mono ?_; rintro e w8 ⟨rfl, hw8⟩; replace hw8 := hw8.symm; subst hw8; rw [hL7]))
            clear lm6
            have hnl0 : nl = 0 := by have h1 := HNLE.out; rw [HNN.out, HNL.out] at h1; have h2 := HK0.out; omega
            subst hnl0
            have HWO : Hid (Calls Try.prog 19 #[.pointer (some ⟨p, 0, none⟩)] w7 fun e w' => e = .returned (.tuple #[valM (el h7 0), .bool false]) ∧ Below w7.heap.size w7 w') := by
              have := Worst_any w.heap.size w7 p (min k 64) v7 h7 HR7.out.K
              rw [decide_eq_false (by omega)] at this
              exact this
            clear HAD
            go_upto_region 16 with (go_at_call 19; refine HWO.out.mono ?_; rintro e w9 ⟨rfl, hb9⟩; obtain ⟨W9, hst9, hbW9, hld9, hcW9⟩ := new_store w9 (el h7 0); have HB9 : Hid (Below w7.heap.size w7 W9) := hb9.trans (hbW9.mono hb9.size); clear hb9 hbW9 hld9 hcW9)
            clear hst9
            go_quiet (fail)
            obtain ⟨wy, hwy⟩ : ∃ wy, wy = W9.drewN nq := ⟨_, rfl⟩
            have HRE : Hid (∃ h vk, SeR w p k l (j + 1) wy h vk) := ⟨_, _, HR7.out.below (by rw [hwy]; exact belowN HB9.out nq)⟩
            rw [← hwy]
            clear hwy
            go_wp2
            go_roundg (n - (j + 1))
            case measure => omega
            case rel => exact ⟨j + 1, by go_num, by omega, Nat.le_refl _, HRE⟩
          · obtain ⟨q, hq⟩ : ∃ q, kk k = q + 1 := ⟨kk k - 1, by omega⟩
            have holk : ol = kk k := by have := HOM.out; omega
            have HQ : Hid (kk k = q + 1 ∧ ol = q + 1) := ⟨hq, by omega⟩
            obtain ⟨y, hy⟩ : ∃ y, el (bestF (kk k) (l.take j)) q = y := ⟨_, rfl⟩
            have HYM : Hid (SmM y) := by
              have h1 : y ∈ bestF (kk k) (l.take j) := by rw [← hy]; exact List.mem_of_getElem? (el_get (by have := HOL.out; omega))
              exact HSM.out y (List.mem_of_mem_take (best_mem h1))
            obtain ⟨bt, hbt⟩ : ∃ b, btr x y = b := ⟨_, rfl⟩
            have HWB : Hid (wantB (kk k) (bestF (kk k) (l.take j)) x = bt) := by
              show _ = _
              unfold wantB
              rw [decide_eq_false (by have := HOL.out; omega), decide_eq_true (show 0 < kk k by omega), show kk k - 1 = q by omega, hy, hbt]
              rfl
            have HRB : Hid (∀ W, Calls Try.prog 12 #[valM x, valM y] W fun e w' => e = .returned (.bool bt) ∧ Below W.heap.size W w') := fun W => by have := refBetter_any x y W HSX.out HYM.out; rw [hbt] at this; exact this
            have hbb : (bt != bt) = false := by cases bt <;> rfl
            obtain ⟨g4, c4, hv4, hg4l, _, _, hc4⟩ := GOwn.mt HG4.out (by have := HOL.out; omega)
            simp only [Value.slice.injEq] at hv4
            obtain ⟨hv41, hv42, hv43⟩ := hv4
            subst hv41
            obtain ⟨r0, r1, r2, _⟩ := hc4 q (by have := HOL.out; omega)
            rw [hy] at r0 r1 r2
            obtain ⟨t0, t1, t2⟩ := own_cells HZ4.out.S
            have hS4 : SLa mb g4 (q * 3) x y w4.drew := ⟨t0, t1, t2, r0, r1, r2⟩
            have hmb4 : mb < w4.heap.size := (Array.getElem?_eq_some_iff.1 HZ4.out.S).1
            have hqw4 : IntKind.i64.wrap ((kk k : Int) - 1) = (q : Int) := by rw [IntKind.wrap_i64]; omega
            have hqz4 : (q : Int) < (ol : Int) := by omega
            have hk1 : (0 : Int) < (kk k : Int) := by omega
            have hk1n : 0 < kk k := by omega
            clear hv42 hv43 hc4 r0 r1 r2 t0 t1 t2 hq holk hy hbt hmb
            refine region_at (S := SLa mb g4 (q * 3) x y) 18 rfl mixedB hS4 (fun _ => ?_)
            refine take_at (i := 0) 40 rfl rfl (by kernel_rfl) (by kernel_rfl) (by kernel_rfl) (fun _ _ _ h => h) (by rfl) (fun w hSw => by (have hSw2 := id hSw; clear hSw; go_simp; first | done | exact rfl)) (by assumption) ?_
            simp only [List.setIfInBounds_toArray, List.set_cons_zero, List.set_cons_succ]
            refine take_at (i := 1) 41 rfl rfl (by kernel_rfl) (by kernel_rfl) (by kernel_rfl) (fun _ _ _ h => h) (by rfl) (fun w hSw => by (have hSw2 := id hSw; clear hSw; go_simp; first | done | exact rfl)) (by assumption) ?_
            simp only [List.setIfInBounds_toArray, List.set_cons_zero, List.set_cons_succ]
            refine take_at (i := 2) 42 rfl rfl (by kernel_rfl) (by kernel_rfl) (by kernel_rfl) (fun _ _ _ h => h) (by rfl) (fun w hSw => by (have hSw2 := id hSw; clear hSw; go_simp; first | done | exact rfl)) (by assumption) ?_
            simp only [List.setIfInBounds_toArray, List.set_cons_zero, List.set_cons_succ]
            refine take_at (i := 3) (v := .bool false) 43 rfl rfl (by kernel_rfl) (by kernel_rfl) (by kernel_rfl) (fun _ _ _ h => h) (by rfl) (fun w hSw => by (have hSw2 := id hSw; clear hSw; go_simp; first | done | exact rfl | simp_all | (simp; omega))) (by assumption) ?_
            simp only [List.setIfInBounds_toArray, List.set_cons_zero, List.set_cons_succ]
            refine take_at (i := 4) 44 rfl rfl (by kernel_rfl) (by kernel_rfl) (by kernel_rfl) (fun _ _ _ h => h) (by rfl) (fun w hSw => by (have hSw2 := id hSw; clear hSw; go_simp; first | done | exact rfl)) (by assumption) ?_
            simp only [List.setIfInBounds_toArray, List.set_cons_zero, List.set_cons_succ]
            refine take_at (i := 5) 45 rfl rfl (by kernel_rfl) (by kernel_rfl) (by kernel_rfl) (fun _ _ _ h => h) (by rfl) (fun w hSw => by (have hSw2 := id hSw; clear hSw; go_simp; first | done | exact rfl)) (by assumption) ?_
            simp only [List.setIfInBounds_toArray, List.set_cons_zero, List.set_cons_succ]
            refine take_at (i := 6) (v := .bool true) 46 rfl rfl (by kernel_rfl) (by kernel_rfl) (by kernel_rfl) (fun _ _ _ h => h) (by rfl) (fun w hSw => by (have hSw2 := id hSw; clear hSw; go_simp; first | done | exact rfl | simp_all | (simp; omega))) (by assumption) ?_
            simp only [List.setIfInBounds_toArray, List.set_cons_zero, List.set_cons_succ]
            refine take_at (i := 7) 47 rfl rfl (by kernel_rfl) (by kernel_rfl) (by kernel_rfl) (fun _ _ _ h => h) (by rfl) (fun w hSw => by (have hSw2 := id hSw; clear hSw; go_simp; first | done | exact rfl)) (by assumption) ?_
            simp only [List.setIfInBounds_toArray, List.set_cons_zero, List.set_cons_succ]
            refine take_at (i := 8) (v := valM x) 48 rfl rfl (by kernel_rfl) (by kernel_rfl) (by kernel_rfl) (fun _ _ _ h => h) (by rfl) (fun w hSw => by refine (exec_load_M _ _ _ _ _ _ _ _).trans ?_; show (loadM Try.prog (.pointer (some ⟨mb, 0, none⟩)) w).andThen _ = _; rw [loadM_at hSw.a0 hSw.a1 hSw.a2]; rfl) (by assumption) ?_
            simp only [List.setIfInBounds_toArray, List.set_cons_zero, List.set_cons_succ]
            refine take_at (i := 9) 49 rfl rfl (by kernel_rfl) (by kernel_rfl) (by kernel_rfl) (fun _ _ _ h => h) (by rfl) (fun w hSw => by (have hSw2 := id hSw; clear hSw; go_simp; first | done | exact rfl)) (by assumption) ?_
            simp only [List.setIfInBounds_toArray, List.set_cons_zero, List.set_cons_succ]
            refine take_at (i := 10) 50 rfl rfl (by kernel_rfl) (by kernel_rfl) (by kernel_rfl) (fun _ _ _ h => h) (by rfl) (fun w hSw => by (have hSw2 := id hSw; clear hSw; go_simp; first | done | exact rfl)) (by assumption) ?_
            simp only [List.setIfInBounds_toArray, List.set_cons_zero, List.set_cons_succ]
            refine take_at (i := 11) (v := .int .i64 (q : Int)) 51 rfl rfl (by kernel_rfl) (by kernel_rfl) (by kernel_rfl) (fun _ _ _ h => h) (by rfl) (fun w _ => exec_sub1 _ _ _ _ _ _ _ w (kk k : Int) (q : Int) rfl rfl hqw4) (by assumption) ?_
            simp only [List.setIfInBounds_toArray, List.set_cons_zero, List.set_cons_succ]
            refine take_at (i := 12) 52 rfl rfl (by kernel_rfl) (by kernel_rfl) (by kernel_rfl) (fun _ _ _ h => h) (by rfl) (fun w hSw => by (have hSw2 := id hSw; clear hSw; go_simp; first | done | exact rfl)) (by assumption) ?_
            simp only [List.setIfInBounds_toArray, List.set_cons_zero, List.set_cons_succ]
            refine take_at (i := 13) (v := valM y) 53 rfl rfl (by kernel_rfl) (by kernel_rfl) (by kernel_rfl) (fun _ _ _ h => h) (by rfl) (fun w hSw => by refine (exec_load_M _ _ _ _ _ _ _ _).trans ?_; show (loadM Try.prog (.pointer (some ⟨g4, q * 3, none⟩)) w).andThen _ = _; rw [loadM_at hSw.b0 hSw.b1 hSw.b2]; rfl) (by assumption) ?_
            simp only [List.setIfInBounds_toArray, List.set_cons_zero, List.set_cons_succ]
            refine one_call (i := 14) (w0 := w4.drew) 54 12 #[valM x, valM y] (by kernel_rfl) rfl rfl (by rfl) (by kernel_rfl) ((HRB.out w4.drew).mono ?_)
            rintro e wz ⟨rfl, hbz'⟩
            have hbz : Below w4.heap.size w4 wz := (Below.refl _ w4).drew.trans hbz'
            have hSz : SLa mb g4 (q * 3) x y wz := hS4.below hmb4 hg4l hbz'
            have HZ : Hid (RdR w p k l j mb x h' vk wz) := HZ4.out.below hbz
            refine ⟨_, rfl, hSz, fun _ => ?_⟩
            simp only [List.setIfInBounds_toArray, List.set_cons_zero, List.set_cons_succ]
            refine one_value (i := 15) (v := .bool bt) (w' := wz) 55 (by kernel_rfl) rfl rfl (by rfl) (by kernel_rfl) hSz (fun _ => ?_)
            simp only [List.setIfInBounds_toArray, List.set_cons_zero, List.set_cons_succ]
            refine one_value (i := 16) (v := .bool bt) (w' := wz) 56 (by kernel_rfl) rfl rfl (by rfl) (by kernel_rfl) hSz (fun _ => ?_)
            simp only [List.setIfInBounds_toArray, List.set_cons_zero, List.set_cons_succ]
            refine one_value (i := 17) (v := .bool bt) (w' := wz) 10 (by kernel_rfl) rfl rfl (by rfl) (by kernel_rfl) hSz (fun _ => ?_)
            simp only [List.setIfInBounds_toArray, List.set_cons_zero, List.set_cons_succ]
            refine wpAnyH_done (by kernel_rfl) ?_ _
            clear hSz hbz hbz' hS4 hqw4 hqz4
            have HSEP : Hid (∀ g, wz.heap.size ≤ g → ¬ KF p vk g) := fun g hg f => by
              rcases f with e | e
              · have := HZ.out.R.K.lt; omega
              · have := HZ.out.R.K.row.lt e; omega
            go_upto_region 13 with (go_at_call 15; refine (refBest_any wz _ (l.take (j + 1)) k ((HROW.out.below HZ.out.R.bel).pre (j + 1) cap (by have := HN.out; omega)) (fun y hy => HSM.out y (List.mem_of_mem_take hy)) (by rw [List.length_take]; have := HN.out; omega)).mono ?_; rintro e w6 ⟨v6, rfl, hg6, hb6⟩; have HZ6 : Hid (RdR w p k l j mb x h' vk w6) := HZ.out.below hb6; have HG6 : Hid (GOwn 23 3 wz.heap.size w6 v6 ((bestF (kk k) (l.take (j + 1))).map cellsM)) := hg6; clear hg6 hb6)
            obtain ⟨N, hN⟩ : ∃ N, bestF (kk k) (l.take (j + 1)) = N := ⟨_, rfl⟩
            have HNN : Hid (bestF (kk k) (l.take (j + 1)) = N) := hN
            rw [hN] at HG6
            obtain ⟨nl, hnl⟩ : ∃ nl, N.length = nl := ⟨_, rfl⟩
            have HNL : Hid (N.length = nl) := hnl
            obtain ⟨ad6, cap6, hv6, hcap6⟩ := HG6.out.shape
            rw [List.length_map, hnl] at hv6 hcap6
            subst hv6
            have hnl64 : nl ≤ 64 := by have := best_small k (l.take (j + 1)); rw [hN, hnl] at this; exact this
            clear hN hnl
            have lm6 := own_load HZ6.out.S
            have HAD : Hid (Calls Try.prog 17 #[.pointer (some ⟨p, 0, none⟩), valM x] w6 fun e w' => e = .returned (.bool bt) ∧ AddSays w.heap.size w6 w' p (min k 64) vk (bestF (kk k) (l.take j)) x) := by
              have := Add_any w.heap.size w6 p (min k 64) vk h' _ x HZ6.out.R.K HZ6.out.R.kp (by omega)
              rw [show (min k 64).toNat = kk k from rfl, HWB.out] at this
              exact this
            go_upto_region 15 with (first
              | (go_at_call 17; refine HAD.out.mono ?_; rintro e w7 ⟨rfl, hA⟩; obtain ⟨h7, v7, hR7⟩ := HZ6.out.R.step (Below.refl _ _) HX.out hA; have HR7 : Hid (SeR w p k l (j + 1) w7 h7 v7) := hR7; have hL7 : h7.length = nl := (by rw [hR7.len, HNN.out, HNL.out]); have HG7 : Hid (GOwn 23 3 wz.heap.size w7 (.slice ad6 nl cap6) (N.map cellsM)) := GOwn.upd HG6.out hA.up (fun g hg f => HSEP.out g (HG6.out.block hg).1 f); clear hR7 hA)
              | (go_at_call 18; refine (Klen_any w.heap.size w7 p (min k 64) v7 h7 HR7.out.K).mono ?_; rintro e w8 ⟨rfl, hw8⟩; replace hw8 := hw8.symm; subst hw8; rw [hL7]))
            clear lm6
            have hnlp : 0 < nl := by have h1 := HNLE.out; rw [HNN.out, HNL.out] at h1; have h2 := HQ.out; omega
            obtain ⟨q7, hq7⟩ : ∃ q7, nl = q7 + 1 := ⟨nl - 1, by omega⟩
            obtain ⟨y7, hy7⟩ : ∃ y, el h7 0 = y := ⟨_, rfl⟩
            have HEL : Hid (el N q7 = y7) := by
              have := HR7.out.last (q := q7) (by rw [HNN.out, HNL.out]; exact hq7)
              rw [HNN.out, hy7] at this
              exact this
            have HWO : Hid (Calls Try.prog 19 #[.pointer (some ⟨p, 0, none⟩)] w7 fun e w' => e = .returned (.tuple #[valM y7, .bool true]) ∧ Below w7.heap.size w7 w') := by
              have := Worst_any w.heap.size w7 p (min k 64) v7 h7 HR7.out.K
              rw [hy7, decide_eq_true (by omega)] at this
              exact this
            have HQ7 : Hid (nl = q7 + 1) := hq7
            clear hy7 HAD hq7
            go_upto_region 16 with (go_at_call 19; refine HWO.out.mono ?_; rintro e w9 ⟨rfl, hb9⟩; obtain ⟨W9, hst9, hbW9, hld9, hcW9⟩ := new_store w9 y7; have HB9 : Hid (Below w7.heap.size w7 W9) := hb9.trans (hbW9.mono hb9.size); clear hb9 hbW9 hld9)
            obtain ⟨xb, hxb⟩ : ∃ xb, w9.heap.size = xb := ⟨_, rfl⟩
            rw [hxb] at hcW9
            rw [hxb]
            clear hst9 hxb
            obtain ⟨g6, c6, hv6, hg6l, _, _, hc6⟩ := GOwn.mt (HG7.out.below HB9.out) (by have := HNL.out; have := HQ7.out; omega)
            simp only [Value.slice.injEq] at hv6
            obtain ⟨hv61, hv62, hv63⟩ := hv6
            subst hv61
            obtain ⟨r0, r1, r2, _⟩ := hc6 q7 (by have := HNL.out; have := HQ7.out; omega)
            rw [HEL.out] at r0 r1 r2
            obtain ⟨t0, t1, t2⟩ := own_cells hcW9
            have hS9 : SLa xb g6 (q7 * 3) y7 y7 W9.drew := ⟨t0, t1, t2, r0, r1, r2⟩
            have hqi : (nl : Int) - 1 = (q7 : Int) := by have := HQ7.out; omega
            have hqw : IntKind.i64.wrap ((nl : Int) - 1) = (q7 : Int) := by have := HQ7.out; rw [IntKind.wrap_i64]; omega
            have hq7z : (q7 : Int) < (nl : Int) := by have := HQ7.out; omega
            have hnl0 : (0 : Int) < (nl : Int) := by have := HQ7.out; omega
            clear hv62 hv63 hc6 r0 r1 r2 t0 t1 t2
            refine region_at (S := SLa xb g6 (q7 * 3) y7 y7) 18 rfl mixedB hS9 (fun _ => ?_)
            refine take_at (i := 0) 80 rfl rfl (by kernel_rfl) (by kernel_rfl) (by kernel_rfl) (fun _ _ _ h => h) (by rfl) (fun w hSw => by (have hSw2 := id hSw; clear hSw; go_simp; first | done | exact rfl)) (by assumption) ?_
            simp only [List.setIfInBounds_toArray, List.set_cons_zero, List.set_cons_succ]
            refine take_at (i := 1) 81 rfl rfl (by kernel_rfl) (by kernel_rfl) (by kernel_rfl) (fun _ _ _ h => h) (by rfl) (fun w hSw => by (have hSw2 := id hSw; clear hSw; go_simp; first | done | exact rfl)) (by assumption) ?_
            simp only [List.setIfInBounds_toArray, List.set_cons_zero, List.set_cons_succ]
            refine take_at (i := 2) 82 rfl rfl (by kernel_rfl) (by kernel_rfl) (by kernel_rfl) (fun _ _ _ h => h) (by rfl) (fun w hSw => by (have hSw2 := id hSw; clear hSw; go_simp; first | done | exact rfl)) (by assumption) ?_
            simp only [List.setIfInBounds_toArray, List.set_cons_zero, List.set_cons_succ]
            refine take_at (i := 3) (v := .bool true) 83 rfl rfl (by kernel_rfl) (by kernel_rfl) (by kernel_rfl) (fun _ _ _ h => h) (by rfl) (fun w hSw => by (have hSw2 := id hSw; clear hSw; go_simp; first | done | exact rfl | simp_all | (simp; omega))) (by assumption) ?_
            simp only [List.setIfInBounds_toArray, List.set_cons_zero, List.set_cons_succ]
            refine take_at (i := 4) (v := .bool false) 84 rfl rfl (by kernel_rfl) (by kernel_rfl) (by kernel_rfl) (fun _ _ _ h => h) (by rfl) (fun w hSw => by (have hSw2 := id hSw; clear hSw; go_simp; first | done | exact rfl | simp_all | (simp; omega))) (by assumption) ?_
            simp only [List.setIfInBounds_toArray, List.set_cons_zero, List.set_cons_succ]
            refine take_at (i := 5) 85 rfl rfl (by kernel_rfl) (by kernel_rfl) (by kernel_rfl) (fun _ _ _ h => h) (by rfl) (fun w hSw => by (have hSw2 := id hSw; clear hSw; go_simp; first | done | exact rfl)) (by assumption) ?_
            simp only [List.setIfInBounds_toArray, List.set_cons_zero, List.set_cons_succ]
            refine take_at (i := 6) 86 rfl rfl (by kernel_rfl) (by kernel_rfl) (by kernel_rfl) (fun _ _ _ h => h) (by rfl) (fun w hSw => by (have hSw2 := id hSw; clear hSw; go_simp; first | done | exact rfl)) (by assumption) ?_
            simp only [List.setIfInBounds_toArray, List.set_cons_zero, List.set_cons_succ]
            refine take_at (i := 7) 87 rfl rfl (by kernel_rfl) (by kernel_rfl) (by kernel_rfl) (fun _ _ _ h => h) (by rfl) (fun w hSw => by (have hSw2 := id hSw; clear hSw; go_simp; first | done | exact rfl)) (by assumption) ?_
            simp only [List.setIfInBounds_toArray, List.set_cons_zero, List.set_cons_succ]
            refine take_at (i := 8) (v := valM y7) 88 rfl rfl (by kernel_rfl) (by kernel_rfl) (by kernel_rfl) (fun _ _ _ h => h) (by rfl) (fun w hSw => by refine (exec_load_M _ _ _ _ _ _ _ _).trans ?_; show (loadM Try.prog (.pointer (some ⟨xb, 0, none⟩)) w).andThen _ = _; rw [loadM_at hSw.a0 hSw.a1 hSw.a2]; rfl) (by assumption) ?_
            simp only [List.setIfInBounds_toArray, List.set_cons_zero, List.set_cons_succ]
            refine take_at (i := 9) 89 rfl rfl (by kernel_rfl) (by kernel_rfl) (by kernel_rfl) (fun _ _ _ h => h) (by rfl) (fun w hSw => by (have hSw2 := id hSw; clear hSw; go_simp; first | done | exact rfl)) (by assumption) ?_
            simp only [List.setIfInBounds_toArray, List.set_cons_zero, List.set_cons_succ]
            refine take_at (i := 10) 90 rfl rfl (by kernel_rfl) (by kernel_rfl) (by kernel_rfl) (fun _ _ _ h => h) (by rfl) (fun w hSw => by (have hSw2 := id hSw; clear hSw; go_simp; first | done | exact rfl)) (by assumption) ?_
            simp only [List.setIfInBounds_toArray, List.set_cons_zero, List.set_cons_succ]
            refine take_at (i := 11) 91 rfl rfl (by kernel_rfl) (by kernel_rfl) (by kernel_rfl) (fun _ _ _ h => h) (by rfl) (fun w hSw => by (have hSw2 := id hSw; clear hSw; go_simp; first | done | exact rfl)) (by assumption) ?_
            simp only [List.setIfInBounds_toArray, List.set_cons_zero, List.set_cons_succ]
            refine take_at (i := 12) (v := .int .i64 (q7 : Int)) 92 rfl rfl (by kernel_rfl) (by kernel_rfl) (by kernel_rfl) (fun _ _ _ h => h) (by rfl) (fun w _ => exec_sub1 _ _ _ _ _ _ _ w (nl : Int) (q7 : Int) rfl rfl hqw) (by assumption) ?_
            simp only [List.setIfInBounds_toArray, List.set_cons_zero, List.set_cons_succ]
            refine take_at (i := 13) 93 rfl rfl (by kernel_rfl) (by kernel_rfl) (by kernel_rfl) (fun _ _ _ h => h) (by rfl) (fun w hSw => by (have hSw2 := id hSw; clear hSw; go_simp; first | done | exact rfl)) (by assumption) ?_
            simp only [List.setIfInBounds_toArray, List.set_cons_zero, List.set_cons_succ]
            refine take_at (i := 14) (v := valM y7) 94 rfl rfl (by kernel_rfl) (by kernel_rfl) (by kernel_rfl) (fun _ _ _ h => h) (by rfl) (fun w hSw => by refine (exec_load_M _ _ _ _ _ _ _ _).trans ?_; show (loadM Try.prog (.pointer (some ⟨g6, q7 * 3, none⟩)) w).andThen _ = _; rw [loadM_at hSw.b0 hSw.b1 hSw.b2]; rfl) (by assumption) ?_
            simp only [List.setIfInBounds_toArray, List.set_cons_zero, List.set_cons_succ]
            refine take_at (i := 15) (v := .bool false) 95 rfl rfl (by kernel_rfl) (by kernel_rfl) (by kernel_rfl) (fun _ _ _ h => h) (by rfl) (fun w _ => exec_neM _ _ _ _ _ _ _ _ w y7 rfl rfl) (by assumption) ?_
            simp only [List.setIfInBounds_toArray, List.set_cons_zero, List.set_cons_succ]
            refine take_at (i := 16) 96 rfl rfl (by kernel_rfl) (by kernel_rfl) (by kernel_rfl) (fun _ _ _ h => h) (by rfl) (fun w hSw => by (have hSw2 := id hSw; clear hSw; go_simp; first | done | exact rfl)) (by assumption) ?_
            simp only [List.setIfInBounds_toArray, List.set_cons_zero, List.set_cons_succ]
            refine take_at (i := 17) 97 rfl rfl (by kernel_rfl) (by kernel_rfl) (by kernel_rfl) (fun _ _ _ h => h) (by rfl) (fun w hSw => by (have hSw2 := id hSw; clear hSw; go_simp; first | done | exact rfl)) (by assumption) ?_
            simp only [List.setIfInBounds_toArray, List.set_cons_zero, List.set_cons_succ]
            refine wpAnyH_done (by kernel_rfl) ?_ _
            have HRE : Hid (∃ h vk, SeR w p k l (j + 1) W9.drew h vk) := ⟨_, _, HR7.out.below (HB9.out.trans (Below.refl _ W9).drew)⟩
            clear hS9
            go_wp2
            go_roundg (n - (j + 1))
            case measure => omega
            case rel => exact ⟨j + 1, by go_num, by omega, Nat.le_refl _, HRE⟩
      · have hkn : j = n := by omega
        subst hkn
        have HE : Hid (l.take j = l) := List.take_of_length_le (by have := HN.out; omega)
        have HTK : Hid (Calls Try.prog 20 #[.pointer (some ⟨p, 0, none⟩)] wr fun e w' => ∃ vl, e = .returned vl ∧ GOwn 23 3 wr.heap.size w' vl ((bestF (kk k) (l.take j)).map cellsM) ∧ Upd (KF p vk) wr w' ∧ ∃ v', KAt w.heap.size w' p (min k 64) v' [] ∧ v'.ownBlock = vk.ownBlock) := Take_any w.heap.size wr p (min k 64) vk h' _ HS.out.K HS.out.kp (by omega)
        rw [HE.out] at HTK
        go_wp2_with (first
          | (go_at_call 20; refine HTK.out.mono ?_; rintro e w4 ⟨v4, rfl, hg4, hu4, v4', hK4, _⟩; have HB4 : Hid (Below w.heap.size w w4) := HB.out.trans (hu4.below (fun q hq => KF.low HS.out.K hq) HB.out.size); have HR4 : Hid (MRow w4 v4 (bestF (kk k) l)) := GOwn.reads_m hg4; have HK4 : Hid (KAt w.heap.size w4 p (min k 64) v4' []) := hK4; clear hg4 hu4 hK4)
          | (go_at_call 15; refine (refBest_any w4 _ l k (HROW.out.below HB4.out) HSM.out (by have := HN.out; omega)).mono ?_; rintro e w5 ⟨v5, rfl, hg5, hb5⟩; have HR5 : Hid (MRow w5 v5 (bestF (kk k) l)) := GOwn.reads_m hg5; have HR45 : Hid (MRow w5 v4 (bestF (kk k) l)) := HR4.out.below hb5; have HK5 : Hid (KAt w.heap.size w5 p (min k 64) v4' []) := HK4.out.below hb5; have HB5 : Hid (Below w.heap.size w w5) := HB4.out.trans (hb5.mono HB4.out.size); clear hb5 hg5)
          | (go_at_call 13; refine (same12_any w5 v4 v5 (bestF (kk k) l) HR45.out HR5.out (by have := best_small k l; omega)).mono ?_; rintro e w6 ⟨rfl, q, hq⟩; have hb6 : Below w5.heap.size w5 w6 := (by rw [hq]; exact belowN (Below.refl _ _) q); have HK6 : Hid (KAt w.heap.size w6 p (min k 64) v4' []) := HK5.out.below hb6; have HB6 : Hid (Below w.heap.size w w6) := HB5.out.trans (hb6.mono HB5.out.size); clear hq hb6)
          | (go_at_call 18; refine (Klen_any w.heap.size w6 p (min k 64) v4' [] HK6.out).mono ?_; rintro e w7 ⟨rfl, hw7⟩; replace hw7 := hw7.symm; subst hw7))
        go_ret
        exact ⟨rfl, HB6.out⟩
end Bt
end Go.Proofs.Ytmpfcdffpjocnaa
