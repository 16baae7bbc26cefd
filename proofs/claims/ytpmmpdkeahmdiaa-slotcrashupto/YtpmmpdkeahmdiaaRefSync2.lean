/- The reference of the disk: Sync, the walk. -/
import Derived.Test.YtpmmpdkeahmdiaaRefSync
namespace Go.Proofs.Ytpmmpdkeahmdiaa
open Go.RowKit
set_option maxRecDepth 100000

attribute [local go_sem ↓] exec_alloc_D exec_box_D exec_load_D exec_store_D
attribute [local go_sem] rdV_cells rdC_0 rdC_1 rdC_2 rdC_3 rdC_4 rdC_5
def SySays (P : Nat → Prop) (r : RD) (X : List RX) (a : Int) (w : World) (e : Ending) (w' : World) : Prop :=
  ∃ r' l' X' c, e = .returned (.tuple #[rdV r' l', .int .i64 c]) ∧ SecRow (fun b => P b ∨ w.heap.size ≤ b) w' l' X' ∧ Below w.heap.size w w' ∧
    ((r.dead = true ∧ r' = r ∧ X' = X ∧ c = 30) ∨ (r.dead = false ∧ rdDies r = true ∧ r' = rdStep r ∧ X' = X ∧ c = 30) ∨ (r.dead = false ∧ rdDies r = false ∧ r' = rdStep r ∧ X'.map RX.s = X.map (fun x => syR a x.s) ∧ c = 0))
set_option maxHeartbeats 2000000 in
theorem refSync_dead (P : Nat → Prop) (r : RD) (l : Value) (X : List RX) (a : Int) (w : World) (hX : SecRow P w l X) (hd : r.dead = true) :
    Calls Try.prog 48 #[rdV r l, .int .u64 a] w (SySays P r X a w) := by
  obtain ⟨ad, cap, rfl, _⟩ := id hX
  obtain ⟨t1, t2, t3, t4⟩ := two0_at w r (.slice ad X.length cap)
  have hld := loadD_at t1
  have hst := storeD_at (r := r) (ad := ad) (n := X.length) (c := cap) t2
  have HE : Hid (SySays P r X a w (.returned (.tuple #[rdV r (.slice ad X.length cap), .int .i64 30])) (setD (two0 w r (.slice ad X.length cap)) (w.heap.size + 1) r (.slice ad X.length cap))) := by
    have hb := setD_below t3 (b := w.heap.size + 1) (by omega) r (.slice ad X.length cap)
    exact ⟨r, .slice ad X.length cap, X, 30, rfl, (hX.below hb).mono fun b _ h => .inl h, hb, .inl ⟨hd, rfl, rfl, rfl⟩⟩
  have HR : Hid (DskAt (setD (two0 w r (.slice ad X.length cap)) (w.heap.size + 1) r (.slice ad X.length cap)) (w.heap.size + 1) r (.slice ad X.length cap)) := t2.set
  clear hX t1 t2 t3 t4
  obtain ⟨w5, hw5⟩ : ∃ w5, setD (two0 w r (.slice ad X.length cap)) (w.heap.size + 1) r (.slice ad X.length cap) = w5 := ⟨_, rfl⟩
  rw [hw5] at hst HE HR
  clear hw5
  unfold two0 at hld hst
  go_enter Try.func48, Try.ntmps48
  go_wp2
  exact retD2 rfl rfl rfl HR.out rfl HE.out
def SN (b : Nat) (x : RX) (W : World) : Prop := W.cell? ⟨b, 0, none⟩ = some (.int .u64 x.s.area) ∧ W.cell? ⟨b, 1, none⟩ = some (.int .i64 x.s.n)
theorem SN.facts {b : Nat} {x : RX} {W : World} (h : SN b x W) : W.cell? ⟨b, 0, none⟩ = some (.int .u64 x.s.area) ∧ W.cell? ⟨b, 1, none⟩ = some (.int .i64 x.s.n) := h
theorem SN.below {b : Nat} {x : RX} {W W' : World} (h : SN b x W) (hb : b < W.heap.size) (hB : Below W.heap.size W W') : SN b x W' := ⟨(hB.cell (p := ⟨b, 0, none⟩) hb).trans h.1, (hB.cell (p := ⟨b, 1, none⟩) hb).trans h.2⟩
set_option maxHeartbeats 2000000 in
theorem refSync_rest (P : Nat → Prop) (r : RD) (l : Value) (X : List RX) (a : Int) (w : World) (hX : SecRow P w l X) (hd : r.dead = false) (h1 : 0 ≤ r.steps) (h2 : r.steps < 4611686018427387904) (h3 : -9223372036854775808 ≤ r.left) (h4 : r.left ≤ 9223372036854775807) (h5 : r.armed = true → 0 ≤ r.left) :
    Calls Try.prog 48 #[rdV r l, .int .u64 a] w (SySays P r X a w) := by
  obtain ⟨ad, cap, rfl, hlX, _⟩ := id hX
  have HX : Hid (SecRow P w (.slice ad X.length cap) X) := hX
  obtain ⟨t1, t2, t3, t4⟩ := two0_at w r (.slice ad X.length cap)
  have hld := loadD_at t1
  obtain ⟨w2, hw2⟩ : ∃ w2, two0 w r (.slice ad X.length cap) = w2 := ⟨_, rfl⟩
  have HW2 : Hid ((w.alloc (.cells (rdC r (.slice ad X.length cap)) 27)).alloc (.cells (rdC rd0 (.slice none 0 0)) 27) = w2) := hw2
  unfold two0 at hld
  rw [hw2] at t1 t2 t3 t4
  have T1 : Hid (DskAt w2 w.heap.size r (.slice ad X.length cap)) := t1
  have T2 : Hid (DskAt w2 (w.heap.size + 1) rd0 (.slice none 0 0)) := t2
  have T3 : Hid (Below w.heap.size w w2) := t3
  clear hX hw2 t1 t2 t3
  go_enter Try.func48, Try.ntmps48
  go_wp2_with fail
  rw [HW2.out]
  clear hld HW2
  refine (refStep_any r ad X.length cap w2 h1 h2 h3 h4 h5).mono ?_
  rintro e w3 ⟨rfl, hb3⟩
  have hD3 := T1.out.below (by omega) hb3
  have D3 : Hid (DskAt w3 w.heap.size r (.slice ad X.length cap)) := hD3
  have R3 : Hid (DskAt w3 (w.heap.size + 1) rd0 (.slice none 0 0)) := T2.out.below (by omega) hb3
  have B3 : Hid (Below w.heap.size w w3) := T3.out.trans (hb3.mono (by omega))
  obtain ⟨r4, hr4⟩ : ∃ r4, rdStep r = r4 := ⟨_, rfl⟩
  rw [hr4]
  have hst3 := storeD_at (r := r4) (ad := ad) (n := X.length) (c := cap) hD3
  obtain ⟨w4, hw4⟩ : ∃ w4, setD w3 w.heap.size r4 (.slice ad X.length cap) = w4 := ⟨_, rfl⟩
  rw [hw4] at hst3
  have D4 : Hid (DskAt w4 w.heap.size r4 (.slice ad X.length cap)) := hw4 ▸ hD3.set
  have R4 : Hid (DskAt w4 (w.heap.size + 1) rd0 (.slice none 0 0)) := hw4 ▸ R3.out.far (by omega)
  have B4 : Hid (Below w.heap.size w w4) := hw4 ▸ setD_below B3.out (Nat.le_refl _) _ _
  have hld4 := loadD_at D4.out
  have hs4 := R4.out.lt
  clear hb3 hD3 hw4 T1 T2 T3 t4 D3 R3 B3
  obtain ⟨dies, hdies⟩ : ∃ b, rdDies r = b := ⟨_, rfl⟩
  have HDI : Hid (rdDies r = dies) := hdies
  rw [hdies]
  clear hdies
  have HR4 : Hid (rdStep r = r4) := hr4
  clear hr4
  cases dies with
  | true =>
    have hst5 := storeD_at (r := r4) (ad := ad) (n := X.length) (c := cap) R4.out
    have HE : Hid (SySays P r X a w (.returned (.tuple #[rdV r4 (.slice ad X.length cap), .int .i64 30])) (setD w4 (w.heap.size + 1) r4 (.slice ad X.length cap))) := by
      have hb := setD_below B4.out (b := w.heap.size + 1) (by omega) r4 (.slice ad X.length cap)
      exact ⟨r4, .slice ad X.length cap, X, 30, rfl, (HX.out.below hb).mono fun b _ h => .inl h, hb, .inr (.inl ⟨hd, HDI.out, HR4.out.symm, rfl, rfl⟩)⟩
    have HR : Hid (DskAt (setD w4 (w.heap.size + 1) r4 (.slice ad X.length cap)) (w.heap.size + 1) r4 (.slice ad X.length cap)) := R4.out.set
    obtain ⟨w5, hw5⟩ : ∃ w5, setD w4 (w.heap.size + 1) r4 (.slice ad X.length cap) = w5 := ⟨_, rfl⟩
    rw [hw5] at hst5 HE HR
    clear hw5
    go_wp2_with fail
    exact retD2 rfl rfl rfl HR.out rfl HE.out
  | false =>
    go_wp2_with fail
    clear hst3 hld4
    go_loopw [7, 8] (fun v7 v8 wr => ∃ i acc, SyncR P w w4 a X v7 v8 wr i acc) (fun _ v8 _ => X.length - (intOf v8).toNat)
    case atStart => exact ⟨0, [], rfl, Nat.zero_le _, SecOwn.nil _ _, rfl, fun x hx => (by cases hx), Below.refl _ _⟩
    case round =>
      obtain ⟨i, acc, hI⟩ := hrel
      have HI : Hid (SyncR P w w4 a X _ _ wr i acc) := hI
      have hal : acc.length ≤ i := Nat.le_of_eq hI.len
      obtain ⟨rfl, hi, hown, heq, hok, hbw⟩ := hI
      have hsr := hbw.size
      have D5 : Hid (DskAt wr w.heap.size r4 (.slice ad X.length cap)) := D4.out.below (B := w.heap.size + 2) (by omega) hbw
      have R5 : Hid (DskAt wr (w.heap.size + 1) rd0 (.slice none 0 0)) := R4.out.below (B := w.heap.size + 2) (by omega) hbw
      have B5 : Hid (Below w.heap.size w wr) := B4.out.trans (hbw.mono (by omega))
      obtain ⟨d0, d1, d2, d3, d4, d5, dz⟩ := D5.out.cells
      obtain ⟨av, ac, rfl⟩ := hown.shape
      clear hown heq hok hbw d0 d1 d2 d3 d4
      have n1 : w.heap.size < wr.heap.size := by omega
      have n2 : w.heap.size + 1 < wr.heap.size := by omega
      by_cases hin : i < X.length
      · obtain ⟨_, _, eX, _, hcs, hokX⟩ := id HX.out
        obtain ⟨g, hg0, _, hg, hx4⟩ := hcs (by omega)
        simp only [Value.slice.injEq] at eX
        rw [← eX.1] at hg0
        subst hg0
        obtain ⟨x, hx⟩ : ∃ x, X[i]? = some x := ⟨_, List.getElem?_eq_getElem hin⟩
        obtain ⟨x0, x1, x2, x3⟩ := (hx4 i x hx).below hg B5.out
        have hxok := hokX x (List.mem_of_getElem? hx)
        have HXO : Hid (x.ok P w) := hxok
        obtain ⟨⟨xh, xc, exl, _, _, _⟩, _⟩ := id hxok
        have HM : Hid (X[i]? = some x) := hx
        rw [exl] at x2
        clear hcs hokX eX hx4 hx hxok
        by_cases ea : x.s.area = a
        · have e1 : (x.s.area == a) = true := by simpa using ea
          have EA : Hid (x.s.area = a) := ea
          clear ea
          go_wp2_with fail
          obtain ⟨wx, hwx⟩ : ∃ wx, (wr.alloc (.cells #[.int .u64 x.s.area, .int .i64 x.s.n, .slice (some ⟨xh, 0, none⟩) x.s.vs.length xc, .bool x.s.sy] 95)) = wx := ⟨_, rfl⟩
          rw [hwx]
          have hbx : wx.heap[wr.heap.size]? = some (.cells #[.int .u64 x.s.area, .int .i64 x.s.n, .slice (some ⟨xh, 0, none⟩) x.s.vs.length xc, .bool x.s.sy] 95 (0, 0)) := hwx ▸ alloc_new _ _
          have hsx : wx.heap.size = wr.heap.size + 1 := by rw [← hwx]; simp
          have BX : Hid (Below wr.heap.size wr wx) := hwx ▸ (Below.refl _ wr).alloc (Nat.le_refl _) _
          clear hwx
          obtain ⟨y0, y1, y2, y3, yz⟩ := four_cells hbx
          have HS : Hid (SN wr.heap.size x wx.drew) := ⟨y0, y1⟩
          refine region_at (S := SN wr.heap.size x) 8 rfl (by kernel_rfl) HS.out (fun hHeld => ?_)
          refine take_at (i := 0) 36 rfl rfl (by kernel_rfl) (by kernel_rfl) (by kernel_rfl) (fun _ _ _ h => h) (by rfl) (fun w hSw => by (have hSw2 := SN.facts hSw; clear hSw; go_simp; first | done | exact rfl)) (by assumption) ?_
          simp only [List.setIfInBounds_toArray, List.set_cons_zero, List.set_cons_succ]
          refine take_at (i := 1) 37 rfl rfl (by kernel_rfl) (by kernel_rfl) (by kernel_rfl) (fun _ _ _ h => h) (by rfl) (fun w hSw => by (have hSw2 := SN.facts hSw; clear hSw; go_simp; first | done | exact rfl)) (by assumption) ?_
          simp only [List.setIfInBounds_toArray, List.set_cons_zero, List.set_cons_succ]
          refine take_at (i := 2) 38 rfl rfl (by kernel_rfl) (by kernel_rfl) (by kernel_rfl) (fun _ _ _ h => h) (by rfl) (fun w hSw => by (have hSw2 := SN.facts hSw; clear hSw; go_simp; first | done | exact rfl)) (by assumption) ?_
          simp only [List.setIfInBounds_toArray, List.set_cons_zero, List.set_cons_succ]
          refine one_value (i := 3) (v := x.val) (w' := wx.drew) 39 (by kernel_rfl) rfl rfl (by rfl) ?_ hHeld (fun _ => ?_)
          · unfold RX.val
            rw [exl]
            have z0 : wx.drew.cell? ⟨wr.heap.size, 0, none⟩ = some (.int .u64 x.s.area) := y0
            have z1 : wx.drew.cell? ⟨wr.heap.size, 1, none⟩ = some (.int .i64 x.s.n) := y1
            have z2 : wx.drew.cell? ⟨wr.heap.size, 2, none⟩ = some (.slice (some ⟨xh, 0, none⟩) x.s.vs.length xc) := y2
            have z3 : wx.drew.cell? ⟨wr.heap.size, 3, none⟩ = some (.bool x.s.sy) := y3
            clear y0 y1 y2 y3
            go_simp
            first | done | exact rfl
          simp only [List.setIfInBounds_toArray, List.set_cons_zero, List.set_cons_succ]
          have hbwx : Below w.heap.size w wx.drew := (B5.out.trans (BX.out.mono (by omega))).drew
          refine one_call (i := 4) (w0 := wx.drew) 40 45 #[x.val] (by kernel_rfl) rfl rfl (by rfl) (by kernel_rfl) ?_
          refine (refLast_rx x wx.drew (HXO.out.below hbwx)).mono ?_
          rintro e w5 ⟨rfl, hb5⟩
          have hS5 : SN wr.heap.size x w5 := HS.out.below (by show wr.heap.size < wx.heap.size; omega) hb5
          have hs5 : wr.heap.size + 1 ≤ w5.heap.size := by have := hb5.size; have e : wx.drew.heap.size = wx.heap.size := rfl; omega
          refine ⟨_, rfl, hS5, fun _ => ?_⟩
          simp only [List.setIfInBounds_toArray, List.set_cons_zero, List.set_cons_succ]
          obtain ⟨u, hu⟩ : ∃ u, x.s.vs.getLastD [] = u := ⟨_, rfl⟩
          rw [hu]
          obtain ⟨w6, hw6⟩ : ∃ w6, w5.alloc (.cells #[.string (strB u)] 9) = w6 := ⟨_, rfl⟩
          have hb6 : Below w5.heap.size w5 w6 := hw6 ▸ (Below.refl _ w5).alloc (Nat.le_refl _) _
          have hst6 : w6.heap[w5.heap.size]? = some (.cells #[.string (strB u)] 9 (0, 0)) := hw6 ▸ alloc_new _ _
          have hS6 : SN wr.heap.size x w6 := hS5.below (by omega) hb6
          refine one_value (i := 5) (v := .slice (some ⟨w5.heap.size, 0, none⟩) 1 1) (w' := w6) 41 (by kernel_rfl) rfl rfl (by rfl) ?_ hS6 (fun _ => ?_)
          · rw [← hw6]
            go_simp
            first | done | exact rfl
          simp only [List.setIfInBounds_toArray, List.set_cons_zero, List.set_cons_succ]
          refine one_value (i := 6) (v := .agg #[.int .u64 a, .int .i64 x.s.n, .slice (some ⟨w5.heap.size, 0, none⟩) 1 1, .bool true]) (w' := w6) 42 (by kernel_rfl) rfl rfl (by rfl) (by go_simp; first | done | exact rfl) hS6 (fun _ => ?_)
          simp only [List.setIfInBounds_toArray, List.set_cons_zero, List.set_cons_succ]
          have hb56 : Below wr.heap.size wx.drew w6 := (hb5.mono (by show wr.heap.size ≤ wx.heap.size; omega)).trans (hb6.mono (by omega))
          have hbk6 : w6.heap[wr.heap.size]? = some (.cells #[.int .u64 x.s.area, .int .i64 x.s.n, .slice (some ⟨xh, 0, none⟩) x.s.vs.length xc, .bool x.s.sy] 95 (0, 0)) := (hb6.block _ (by omega)).trans ((hb5.block _ (by show wr.heap.size < wx.heap.size; omega)).trans hbx)
          have BR6 : Below wr.heap.size wr w6 := BX.out.drew.trans hb56
          obtain ⟨w8, hw8⟩ : ∃ w8, (((w6.setCell ⟨wr.heap.size, 0, none⟩ (.int .u64 a)).setCell ⟨wr.heap.size, 1, none⟩ (.int .i64 x.s.n)).setCell ⟨wr.heap.size, 2, none⟩ (.slice (some ⟨w5.heap.size, 0, none⟩) 1 1)).setCell ⟨wr.heap.size, 3, none⟩ (.bool true) = w8 := ⟨_, rfl⟩
          have hbk8 : w8.heap[wr.heap.size]? = some (.cells #[.int .u64 a, .int .i64 x.s.n, .slice (some ⟨w5.heap.size, 0, none⟩) 1 1, .bool true] 95 (0, 0)) := by
            rw [← hw8, set_cell (set_cell (set_cell (set_cell hbk6 0 _) 1 _) 2 _) 3 _]
            rfl
          have BR8 : Hid (Below wr.heap.size wr w8) := hw8 ▸ (((BR6.setCell (Nat.le_refl _) _).setCell (Nat.le_refl _) _).setCell (Nat.le_refl _) _).setCell (Nat.le_refl _) _
          have hst8 : w8.heap[w5.heap.size]? = some (.cells #[.string (strB u)] 9 (0, 0)) := by
            have hne : w5.heap.size ≠ wr.heap.size := by omega
            rw [← hw8, Below.heap_setCell _ _ _ _ hne, Below.heap_setCell _ _ _ _ hne, Below.heap_setCell _ _ _ _ hne, Below.heap_setCell _ _ _ _ hne]
            exact hst6
          obtain ⟨q0, q1, q2, q3, qz⟩ := four_cells hbk8
          refine one_skip (i := 7) (w' := w8) (by kernel_rfl) rfl rfl (by rfl) ?_ ⟨by rw [EA.out]; exact q0, q1⟩ (fun _ => ?_)
          · obtain ⟨k0, k1, k2, k3, kz⟩ := four_cells hbk6
            rw [← hw8]
            clear q0 q1 q2 q3 qz hbk8 hst8 hw8
            go_simp
            first | done | exact rfl
          refine wpAnyH_done (by kernel_rfl) ?_ _
          have HST8 : Hid (w8.heap[w5.heap.size]? = some (.cells #[.string (strB u)] 9 (0, 0))) := hst8
          have hs8 : w5.heap.size < w8.heap.size := (Array.getElem?_eq_some_iff.1 hst8).1
          have HSY : Hid ((⟨a, x.s.n, [u], true⟩ : RS) = syR a x.s) := by
            show (⟨a, x.s.n, [u], true⟩ : RS) = _
            rw [syR, if_pos EA.out, hu]
          have HN8 : Hid (NewStr (w.heap.size + 2) w8 ⟨⟨a, x.s.n, [u], true⟩, .slice (some ⟨w5.heap.size, 0, none⟩) 1 1⟩) := ⟨w5.heap.size, u, rfl, by omega, hst8, rfl⟩
          have HO8 : Hid (SecOwn (w.heap.size + 2) w8 (.slice av acc.length ac) acc) := HI.out.own.below BR8.out
          clear hHeld hbwx hb5 hS5 hu hw6 hb6 hst6 hS6 hb56 hbk6 BR6 hw8 hbk8 hst8 hbx y0 y1 y2 y3 yz x0 x1 x2 x3 HS BX
          go_wp2_with (at_builtin; refine append_sec rfl _ _ rfl (w.heap.size + 2) _ acc ⟨⟨a, x.s.n, [u], true⟩, .slice (some ⟨w5.heap.size, 0, none⟩) 1 1⟩ rfl (HO8.out.alloc _) _ _ rfl (four_new _ ⟨⟨a, x.s.n, [u], true⟩, .slice (some ⟨w5.heap.size, 0, none⟩) 1 1⟩ _ _ _ (by simp) rfl) w8 (HN8.out.ok P) (by omega) (by simp; omega) ?_; intro v' w' ho' hb' hk'; obtain ⟨bv2, bc2, rfl⟩ := ho'.shape; have HO : Hid (SecOwn (w.heap.size + 2) w' (.slice bv2 (acc ++ [(⟨⟨a, x.s.n, [u], true⟩, .slice (some ⟨w5.heap.size, 0, none⟩) 1 1⟩ : RX)]).length bc2) (acc ++ [(⟨⟨a, x.s.n, [u], true⟩, .slice (some ⟨w5.heap.size, 0, none⟩) 1 1⟩ : RX)])) := ho'; have HB : Hid (Below (w.heap.size + 2) w8 w') := (((Below.refl _ w8).alloc (by omega) _)).trans hb'; have HK := own_strs (HO8.out.alloc _) hk'; clear hk' ho' hb')
          have HK8 : ∀ k : Nat, (∃ C, w8.heap[k]? = some (.cells C 9 (0, 0))) → w'.heap[k]? = w8.heap[k]? := fun k hk => by
            obtain ⟨C, hC⟩ := hk
            have e1 := alloc_old w8 (.cells #[.int .u64 a, .int .i64 x.s.n, .slice (some ⟨w5.heap.size, 0, none⟩) 1 1, .bool true] 95) (k := k) (Array.getElem?_eq_some_iff.1 hC).1
            rw [HK k ⟨C, e1.trans hC⟩, e1]
          go_roundw
          case rel =>
            refine HI.out.next HM.out HSY.out (by simpa using HO.out) (.inr (HN8.out.same HK8)) (fun k hk => ?_) ((BR8.out.mono (by omega)).trans HB.out) (by first | rfl | go_num)
            obtain ⟨C, hC⟩ := hk
            have e1 := BR8.out.block k (Array.getElem?_eq_some_iff.1 hC).1
            rw [HK8 k ⟨C, e1.trans hC⟩, e1]
          case measure => simp [intOf]; omega
        · have e1 : (x.s.area == a) = false := by simpa using ea
          have HSY : Hid (x.s = syR a x.s) := by
            show x.s = _
            rw [syR, if_neg ea]
          clear ea
          go_wp2_with (at_builtin; refine append_sec rfl _ _ rfl (w.heap.size + 2) _ acc x rfl ((HI.out.own.alloc _).alloc _) _ _ rfl (four_new _ _ _ _ _ (by simp) exl) w HXO.out (by omega) (by simp; omega) ?_; intro v' w' ho' hb' hk'; obtain ⟨bv2, bc2, rfl⟩ := ho'.shape; have HO : Hid (SecOwn (w.heap.size + 2) w' (.slice bv2 (acc ++ [x]).length bc2) (acc ++ [x])) := ho'; have HB : Hid (Below (w.heap.size + 2) wr w') := (((Below.refl _ wr).alloc (by omega) _).alloc (by simp; omega) _).trans hb'; have HK := own_strs ((HI.out.own.alloc _).alloc _) hk'; clear hk' ho' hb')
          go_roundw
          case rel =>
            refine HI.out.next HM.out HSY.out (by simpa using HO.out) (.inl HXO.out) (fun k hk => ?_) HB.out (by first | rfl | go_num)
            obtain ⟨C, hC⟩ := hk
            have hkl := (Array.getElem?_eq_some_iff.1 hC).1
            have e1 := alloc_old wr (.cells #[.int .u64 x.s.area, .int .i64 x.s.n, .slice (some ⟨xh, 0, none⟩) x.s.vs.length xc, .bool x.s.sy] 95) hkl
            have e2 := alloc_old (wr.alloc (.cells #[.int .u64 x.s.area, .int .i64 x.s.n, .slice (some ⟨xh, 0, none⟩) x.s.vs.length xc, .bool x.s.sy] 95)) (.cells #[.int .u64 x.s.area, .int .i64 x.s.n, .slice (some ⟨xh, 0, none⟩) x.s.vs.length xc, .bool x.s.sy] 95) (k := k) (by simp; omega)
            rw [HK k ⟨C, by rw [e2, e1]; exact hC⟩, e2, e1]
          case measure => simp [intOf]; omega
      · have hxn : ¬ ((i : Int) < (X.length : Int)) := by omega
        have hii : i = X.length := by omega
        have hb6 : Below w.heap.size w (wr.setCell ⟨w.heap.size, 5, none⟩ (.slice av acc.length ac)) := B5.out.setCell (Nat.le_refl _) _
        have D6 : DskAt (wr.setCell ⟨w.heap.size, 5, none⟩ (.slice av acc.length ac)) w.heap.size r4 (.slice av acc.length ac) := set_cell D5.out 5 _
        have R6 : DskAt (wr.setCell ⟨w.heap.size, 5, none⟩ (.slice av acc.length ac)) (w.heap.size + 1) rd0 (.slice none 0 0) := (Below.heap_setCell _ _ _ _ (by show w.heap.size + 1 ≠ w.heap.size; omega)).trans R5.out
        have hld6 := loadD_at D6
        have hst6 := storeD_at (r := r4) (ad := av) (n := acc.length) (c := ac) R6
        obtain ⟨w7, hw7⟩ : ∃ w7, setD (wr.setCell ⟨w.heap.size, 5, none⟩ (.slice av acc.length ac)) (w.heap.size + 1) r4 (.slice av acc.length ac) = w7 := ⟨_, rfl⟩
        rw [hw7] at hst6
        have R7 : Hid (DskAt w7 (w.heap.size + 1) r4 (.slice av acc.length ac)) := hw7 ▸ R6.set
        have B7 : Hid (Below w.heap.size w w7) := hw7 ▸ setD_below hb6 (by omega) _ _
        have F7 : Hid (∀ k, w.heap.size + 2 ≤ k → w7.heap[k]? = wr.heap[k]?) := fun k hk => by
          rw [← hw7, setD_far _ _ _ _ _ (by omega)]
          exact Below.heap_setCell _ _ _ _ (by show k ≠ w.heap.size; omega)
        clear hw7 D6 R6 hb6
        go_wp2_with fail
        refine retD2 rfl rfl rfl R7.out rfl ?_
        refine ⟨r4, .slice av acc.length ac, acc, 0, rfl, ?_, B7.out, .inr (.inr ⟨hd, HDI.out, HR4.out.symm, ?_, rfl⟩)⟩
        · refine SecOwn.row (B := w.heap.size + 2) ?_ (by omega) (fun b hb => .inr (by omega)) (fun x hx => ?_)
          · obtain ⟨g1, g2 | ⟨g, gc, cur, e, k1, k2, k3⟩⟩ := HI.out.own
            · exact ⟨g1, .inl g2⟩
            · exact ⟨g1, .inr ⟨g, gc, cur, e, k1, (F7.out g k1).trans k2, k3⟩⟩
          · rcases HI.out.ok x hx with h | h
            · exact (h.below B7.out).mono fun b _ h => .inl h
            · obtain ⟨h, u, e, h0, hb, hv⟩ := h
              exact (NewStr.ok ⟨h, u, e, h0, (F7.out h h0).trans hb, hv⟩ P).mono fun b _ h => h.imp id (fun h => by omega)
        · rw [HI.out.eq, hii, List.take_length]
end Go.Proofs.Ytpmmpdkeahmdiaa
