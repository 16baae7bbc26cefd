/- Texts that were written apart, joined. -/
import Derived.Test.YtpmmpdkeahmdiaaRefWr
import Derived.Test.YtpmmpdkeahmdiaaSecAll
import Derived.Test.YtpmmpdkeahmdiaaDoes
import Derived.Test.YtpmmpdkeahmdiaaSectors
/- The reference of the disk: Sync. -/
namespace Go.Proofs.Ytpmmpdkeahmdiaa
open Go.RowKit
set_option maxRecDepth 100000

/-- A sector with one version that this call has made. -/
def NewStr (n0 : Nat) (W : World) (x : RX) : Prop := ∃ h u, x.lv = .slice (some ⟨h, 0, none⟩) 1 1 ∧ n0 ≤ h ∧ W.heap[h]? = some (.cells #[.string (strB u)] 9 (0, 0)) ∧ x.s.vs = [u]
theorem NewStr.ok {n0 : Nat} {W : World} {x : RX} (h : NewStr n0 W x) (P : Nat → Prop) : x.ok (fun b => P b ∨ n0 ≤ b) W := by
  obtain ⟨h, u, e, h0, hb, hv⟩ := h
  refine ⟨⟨h, 1, by rw [hv]; exact e, .inr h0, (Array.getElem?_eq_some_iff.1 hb).1, fun j z hj => ?_⟩, by rw [hv]; simp, by rw [hv]; simp⟩
  rw [hv] at hj
  match j, hj with
  | 0, hj => simp at hj; subst hj; simp [World.cell?, hb]
  | j + 1, hj => simp at hj
theorem NewStr.same {n0 : Nat} {W W' : World} {x : RX} (h : NewStr n0 W x) (hs : ∀ k : Nat, (∃ C, W.heap[k]? = some (.cells C 9 (0, 0))) → W'.heap[k]? = W.heap[k]?) : NewStr n0 W' x := by
  obtain ⟨h, u, e, h0, hb, hv⟩ := h
  exact ⟨h, u, e, h0, (hs h ⟨_, hb⟩).trans hb, hv⟩
/-- An append to a row of sectors changes no strings. -/
theorem own_strs {B : Nat} {w w' : World} {v : Value} {A : List RX} (hown : SecOwn B w v A) (hk : ∀ k, k < w.heap.size → v.ownBlock ≠ some k → w'.heap[k]? = w.heap[k]?) : ∀ k : Nat, (∃ C, w.heap[k]? = some (.cells C 9 (0, 0))) → w'.heap[k]? = w.heap[k]? := by
  rintro k ⟨C, hC⟩
  refine hk k (Array.getElem?_eq_some_iff.1 hC).1 fun e => ?_
  rcases hown.2 with ⟨e2, _⟩ | ⟨g, cap, cur, e2, _, hg, _⟩
  · rw [e2] at e; simp [Value.ownBlock] at e
  · rw [e2] at e
    simp [Value.ownBlock] at e
    subst e
    rw [hg] at hC
    simp at hC
structure SyncR (P : Nat → Prop) (w w4 : World) (a : Int) (X : List RX) (v7 v8 : Value) (wr : World) (i : Nat) (acc : List RX) : Prop where
  e8 : v8 = .int .i64 i
  hi : i ≤ X.length
  own : SecOwn (w.heap.size + 2) wr v7 acc
  eq : acc.map RX.s = (X.take i).map fun x => syR a x.s
  ok : ∀ x ∈ acc, x.ok P w ∨ NewStr (w.heap.size + 2) wr x
  below : Below (w.heap.size + 2) w4 wr
theorem SyncR.len {P : Nat → Prop} {w w4 : World} {a : Int} {X : List RX} {v7 v8 : Value} {wr : World} {i : Nat} {acc : List RX} (h : SyncR P w w4 a X v7 v8 wr i acc) : acc.length = i := by
  have := congrArg List.length h.eq
  have hi := h.hi
  simp at this
  omega
theorem SyncR.next {P : Nat → Prop} {w w4 : World} {a : Int} {X : List RX} {v7 v8 v7' v8' : Value} {wr wr' : World} {i : Nat} {acc : List RX} {x y : RX} (h : SyncR P w w4 a X v7 v8 wr i acc) (hx : X[i]? = some x) (hy : y.s = syR a x.s)
    (hown : SecOwn (w.heap.size + 2) wr' v7' (acc ++ [y])) (hok : y.ok P w ∨ NewStr (w.heap.size + 2) wr' y) (hst : ∀ k : Nat, (∃ C, wr.heap[k]? = some (.cells C 9 (0, 0))) → wr'.heap[k]? = wr.heap[k]?) (hb : Below (w.heap.size + 2) wr wr') (e8 : v8' = .int .i64 ((i : Int) + 1)) :
    ∃ i' acc', SyncR P w w4 a X v7' v8' wr' i' acc' := by
  have hin := (List.getElem?_eq_some_iff.1 hx).1
  refine ⟨i + 1, acc ++ [y], by rw [e8]; rfl, hin, hown, ?_, fun z hz => ?_, h.below.trans hb⟩
  · rw [List.map_append, h.eq, List.take_add_one, hx, List.map_append, List.map_singleton, hy]
    rfl
  · rcases List.mem_append.1 hz with hz | hz
    · exact (h.ok z hz).imp id (fun q => q.same hst)
    · rw [List.mem_singleton.1 hz]; exact hok
theorem getLast_get {vs : List (List Nat)} (h : vs ≠ []) : vs[vs.length - 1]? = some (vs.getLastD []) := by
  rw [List.getLastD_eq_getLast?, ← List.getLast?_eq_getElem?]
  cases hg : vs.getLast? with
  | none => exact absurd (List.getLast?_eq_none_iff.1 hg) h
  | some v => rfl
/-- The last version of a sector. -/
theorem refLast_rx {P : Nat → Prop} (x : RX) (w : World) (h : x.ok P w) : Calls Try.prog 45 #[x.val] w fun e w' => e = .returned (.string (strB (x.s.vs.getLastD []))) ∧ Below w.heap.size w w' := by
  obtain ⟨⟨g, c, e, _, hg, hc⟩, hne, hl⟩ := h
  have hpos : 0 < x.s.vs.length := List.length_pos_iff.2 hne
  have := refLast_any x.s.area x.s.n g x.s.vs.length c x.s.sy _ w hg hpos (by omega) ⟨_, rfl⟩ (hc _ _ (getLast_get hne))
  unfold rsV at this
  unfold RX.val
  rw [e]
  exact this
end Go.Proofs.Ytpmmpdkeahmdiaa

/- The reference of the disk: Sync, the walk. -/
namespace Go.Proofs.Ytpmmpdkeahmdiaa
open Go.RowKit
set_option maxRecDepth 100000

attribute [local go_sem ↓] exec_alloc_D exec_box_D exec_load_D exec_store_D
attribute [local go_sem] rdV_cells rdC_0 rdC_1 rdC_2 rdC_3 rdC_4 rdC_5
def SySays (P : Nat → Prop) (r : RD) (X : List RX) (a : Int) (w : World) (e : Ending) (w' : World) : Prop :=
  ∃ r' l' X' c, e = .returned (.tuple #[rdV r' l', .int .i64 c]) ∧ SecRow (fun b => P b ∨ w.heap.size ≤ b) w' l' X' ∧ Below w.heap.size w w' ∧
    ((r.dead = true ∧ r' = r ∧ X' = X ∧ c = 30) ∨ (r.dead = false ∧ rdDies r = true ∧ r' = rdStep r ∧ X' = X ∧ c = 30) ∨ (r.dead = false ∧ rdDies r = false ∧ r' = rdStep r ∧ X'.map RX.s = X.map (fun x => syR a x.s) ∧ c = 0))
set_option maxHeartbeats 2000000 in
theorem refSync_dead (P : Nat → Prop) (r : RD) (l : Value) (X : List RX) (a : Int) (w : World) (hX : SecRow P w l X) (hd : r.dead = true) :
    Calls Try.prog 48 #[rdV r l, .int .u64 a] w (SySays P r X a w) := by
  obtain ⟨ad, cap, rfl, _⟩ := id hX
  obtain ⟨t1, t2, t3, t4⟩ := two0_at w r (.slice ad X.length cap)
  have hld := loadD_at t1
  have hst := storeD_at (r := r) (ad := ad) (n := X.length) (c := cap) t2
  have HE : Hid (SySays P r X a w (.returned (.tuple #[rdV r (.slice ad X.length cap), .int .i64 30])) (setD (two0 w r (.slice ad X.length cap)) (w.heap.size + 1) r (.slice ad X.length cap))) := by
    have hb := setD_below t3 (b := w.heap.size + 1) (by omega) r (.slice ad X.length cap)
    exact ⟨r, .slice ad X.length cap, X, 30, rfl, (hX.below hb).mono fun b _ h => .inl h, hb, .inl ⟨hd, rfl, rfl, rfl⟩⟩
  have HR : Hid (DskAt (setD (two0 w r (.slice ad X.length cap)) (w.heap.size + 1) r (.slice ad X.length cap)) (w.heap.size + 1) r (.slice ad X.length cap)) := t2.set
  clear hX t1 t2 t3 t4
  obtain ⟨w5, hw5⟩ : ∃ w5, setD (two0 w r (.slice ad X.length cap)) (w.heap.size + 1) r (.slice ad X.length cap) = w5 := ⟨_, rfl⟩
  rw [hw5] at hst HE HR
  clear hw5
  unfold two0 at hld hst
  go_enter Try.func48, Try.ntmps48
  go_wp2
  exact retD2 rfl rfl rfl HR.out rfl HE.out
def SN (b : Nat) (x : RX) (W : World) : Prop := W.cell? ⟨b, 0, none⟩ = some (.int .u64 x.s.area) ∧ W.cell? ⟨b, 1, none⟩ = some (.int .i64 x.s.n)
theorem SN.facts {b : Nat} {x : RX} {W : World} (h : SN b x W) : W.cell? ⟨b, 0, none⟩ = some (.int .u64 x.s.area) ∧ W.cell? ⟨b, 1, none⟩ = some (.int .i64 x.s.n) := h
theorem SN.below {b : Nat} {x : RX} {W W' : World} (h : SN b x W) (hb : b < W.heap.size) (hB : Below W.heap.size W W') : SN b x W' := ⟨(hB.cell (p := ⟨b, 0, none⟩) hb).trans h.1, (hB.cell (p := ⟨b, 1, none⟩) hb).trans h.2⟩
set_option maxHeartbeats 2000000 in
theorem refSync_rest (P : Nat → Prop) (r : RD) (l : Value) (X : List RX) (a : Int) (w : World) (hX : SecRow P w l X) (hd : r.dead = false) (h1 : 0 ≤ r.steps) (h2 : r.steps < 4611686018427387904) (h3 : -9223372036854775808 ≤ r.left) (h4 : r.left ≤ 9223372036854775807) (h5 : r.armed = true → 0 ≤ r.left) :
    Calls Try.prog 48 #[rdV r l, .int .u64 a] w (SySays P r X a w) := by
  obtain ⟨ad, cap, rfl, hlX, _⟩ := id hX
  have HX : Hid (SecRow P w (.slice ad X.length cap) X) := hX
  obtain ⟨t1, t2, t3, t4⟩ := two0_at w r (.slice ad X.length cap)
  have hld := loadD_at t1
  obtain ⟨w2, hw2⟩ : ∃ w2, two0 w r (.slice ad X.length cap) = w2 := ⟨_, rfl⟩
  have HW2 : Hid ((w.alloc (.cells (rdC r (.slice ad X.length cap)) 27)).alloc (.cells (rdC rd0 (.slice none 0 0)) 27) = w2) := hw2
  unfold two0 at hld
  rw [hw2] at t1 t2 t3 t4
  have T1 : Hid (DskAt w2 w.heap.size r (.slice ad X.length cap)) := t1
  have T2 : Hid (DskAt w2 (w.heap.size + 1) rd0 (.slice none 0 0)) := t2
  have T3 : Hid (Below w.heap.size w w2) := t3
  clear hX hw2 t1 t2 t3
  go_enter Try.func48, Try.ntmps48
  go_wp2_with fail
  rw [HW2.out]
  clear hld HW2
  refine (refStep_any r ad X.length cap w2 h1 h2 h3 h4 h5).mono ?_
  rintro e w3 ⟨rfl, hb3⟩
  have hD3 := T1.out.below (by omega) hb3
  have D3 : Hid (DskAt w3 w.heap.size r (.slice ad X.length cap)) := hD3
  have R3 : Hid (DskAt w3 (w.heap.size + 1) rd0 (.slice none 0 0)) := T2.out.below (by omega) hb3
  have B3 : Hid (Below w.heap.size w w3) := T3.out.trans (hb3.mono (by omega))
  obtain ⟨r4, hr4⟩ : ∃ r4, rdStep r = r4 := ⟨_, rfl⟩
  rw [hr4]
  have hst3 := storeD_at (r := r4) (ad := ad) (n := X.length) (c := cap) hD3
  obtain ⟨w4, hw4⟩ : ∃ w4, setD w3 w.heap.size r4 (.slice ad X.length cap) = w4 := ⟨_, rfl⟩
  rw [hw4] at hst3
  have D4 : Hid (DskAt w4 w.heap.size r4 (.slice ad X.length cap)) := hw4 ▸ hD3.set
  have R4 : Hid (DskAt w4 (w.heap.size + 1) rd0 (.slice none 0 0)) := hw4 ▸ R3.out.far (by omega)
  have B4 : Hid (Below w.heap.size w w4) := hw4 ▸ setD_below B3.out (Nat.le_refl _) _ _
  have hld4 := loadD_at D4.out
  have hs4 := R4.out.lt
  clear hb3 hD3 hw4 T1 T2 T3 t4 D3 R3 B3
  obtain ⟨dies, hdies⟩ : ∃ b, rdDies r = b := ⟨_, rfl⟩
  have HDI : Hid (rdDies r = dies) := hdies
  rw [hdies]
  clear hdies
  have HR4 : Hid (rdStep r = r4) := hr4
  clear hr4
  cases dies with
  | true =>
    have hst5 := storeD_at (r := r4) (ad := ad) (n := X.length) (c := cap) R4.out
    have HE : Hid (SySays P r X a w (.returned (.tuple #[rdV r4 (.slice ad X.length cap), .int .i64 30])) (setD w4 (w.heap.size + 1) r4 (.slice ad X.length cap))) := by
      have hb := setD_below B4.out (b := w.heap.size + 1) (by omega) r4 (.slice ad X.length cap)
      exact ⟨r4, .slice ad X.length cap, X, 30, rfl, (HX.out.below hb).mono fun b _ h => .inl h, hb, .inr (.inl ⟨hd, HDI.out, HR4.out.symm, rfl, rfl⟩)⟩
    have HR : Hid (DskAt (setD w4 (w.heap.size + 1) r4 (.slice ad X.length cap)) (w.heap.size + 1) r4 (.slice ad X.length cap)) := R4.out.set
    obtain ⟨w5, hw5⟩ : ∃ w5, setD w4 (w.heap.size + 1) r4 (.slice ad X.length cap) = w5 := ⟨_, rfl⟩
    rw [hw5] at hst5 HE HR
    clear hw5
    go_wp2_with fail
    exact retD2 rfl rfl rfl HR.out rfl HE.out
  | false =>
    go_wp2_with fail
    clear hst3 hld4
    go_loopw [7, 8] (fun v7 v8 wr => ∃ i acc, SyncR P w w4 a X v7 v8 wr i acc) (fun _ v8 _ => X.length - (intOf v8).toNat)
    case atStart => exact ⟨0, [], rfl, Nat.zero_le _, SecOwn.nil _ _, rfl, fun x hx => (by cases hx), Below.refl _ _⟩
    case round =>
      obtain ⟨i, acc, hI⟩ := hrel
      have HI : Hid (SyncR P w w4 a X _ _ wr i acc) := hI
      have hal : acc.length ≤ i := Nat.le_of_eq hI.len
      obtain ⟨rfl, hi, hown, heq, hok, hbw⟩ := hI
      have hsr := hbw.size
      have D5 : Hid (DskAt wr w.heap.size r4 (.slice ad X.length cap)) := D4.out.below (B := w.heap.size + 2) (by omega) hbw
      have R5 : Hid (DskAt wr (w.heap.size + 1) rd0 (.slice none 0 0)) := R4.out.below (B := w.heap.size + 2) (by omega) hbw
      have B5 : Hid (Below w.heap.size w wr) := B4.out.trans (hbw.mono (by omega))
      obtain ⟨d0, d1, d2, d3, d4, d5, dz⟩ := D5.out.cells
      obtain ⟨av, ac, rfl⟩ := hown.shape
      clear hown heq hok hbw d0 d1 d2 d3 d4
      have n1 : w.heap.size < wr.heap.size := by omega
      have n2 : w.heap.size + 1 < wr.heap.size := by omega
      by_cases hin : i < X.length
      · obtain ⟨_, _, eX, _, hcs, hokX⟩ := id HX.out
        obtain ⟨g, hg0, _, hg, hx4⟩ := hcs (by omega)
        simp only [Value.slice.injEq] at eX
        rw [← eX.1] at hg0
        subst hg0
        obtain ⟨x, hx⟩ : ∃ x, X[i]? = some x := ⟨_, List.getElem?_eq_getElem hin⟩
        obtain ⟨x0, x1, x2, x3⟩ := (hx4 i x hx).below hg B5.out
        have hxok := hokX x (List.mem_of_getElem? hx)
        have HXO : Hid (x.ok P w) := hxok
        obtain ⟨⟨xh, xc, exl, _, _, _⟩, _⟩ := id hxok
        have HM : Hid (X[i]? = some x) := hx
        rw [exl] at x2
        clear hcs hokX eX hx4 hx hxok
        by_cases ea : x.s.area = a
        · have e1 : (x.s.area == a) = true := by simpa using ea
          have EA : Hid (x.s.area = a) := ea
          clear ea
          go_wp2_with fail
          obtain ⟨wx, hwx⟩ : ∃ wx, (wr.alloc (.cells #[.int .u64 x.s.area, .int .i64 x.s.n, .slice (some ⟨xh, 0, none⟩) x.s.vs.length xc, .bool x.s.sy] 95)) = wx := ⟨_, rfl⟩
          rw [hwx]
          have hbx : wx.heap[wr.heap.size]? = some (.cells #[.int .u64 x.s.area, .int .i64 x.s.n, .slice (some ⟨xh, 0, none⟩) x.s.vs.length xc, .bool x.s.sy] 95 (0, 0)) := hwx ▸ alloc_new _ _
          have hsx : wx.heap.size = wr.heap.size + 1 := by rw [← hwx]; simp
          have BX : Hid (Below wr.heap.size wr wx) := hwx ▸ (Below.refl _ wr).alloc (Nat.le_refl _) _
          clear hwx
          obtain ⟨y0, y1, y2, y3, yz⟩ := four_cells hbx
          have HS : Hid (SN wr.heap.size x wx.drew) := ⟨y0, y1⟩
          refine region_at (S := SN wr.heap.size x) 8 rfl (by kernel_rfl) HS.out (fun hHeld => ?_)
          refine take_at (i := 0) 36 rfl rfl (by kernel_rfl) (by kernel_rfl) (by kernel_rfl) (fun _ _ _ h => h) (by rfl) (fun w hSw => by (have hSw2 := SN.facts hSw; clear hSw; go_simp; first | done | exact rfl)) (by assumption) ?_
          simp only [List.setIfInBounds_toArray, List.set_cons_zero, List.set_cons_succ]
          refine take_at (i := 1) 37 rfl rfl (by kernel_rfl) (by kernel_rfl) (by kernel_rfl) (fun _ _ _ h => h) (by rfl) (fun w hSw => by (have hSw2 := SN.facts hSw; clear hSw; go_simp; first | done | exact rfl)) (by assumption) ?_
          simp only [List.setIfInBounds_toArray, List.set_cons_zero, List.set_cons_succ]
          refine take_at (i := 2) 38 rfl rfl (by kernel_rfl) (by kernel_rfl) (by kernel_rfl) (fun _ _ _ h => h) (by rfl) (fun w hSw => by (have hSw2 := SN.facts hSw; clear hSw; go_simp; first | done | exact rfl)) (by assumption) ?_
          simp only [List.setIfInBounds_toArray, List.set_cons_zero, List.set_cons_succ]
          refine one_value (i := 3) (v := x.val) (w' := wx.drew) 39 (by kernel_rfl) rfl rfl (by rfl) ?_ hHeld (fun _ => ?_)
          · unfold RX.val
            rw [exl]
            have z0 : wx.drew.cell? ⟨wr.heap.size, 0, none⟩ = some (.int .u64 x.s.area) := y0
            have z1 : wx.drew.cell? ⟨wr.heap.size, 1, none⟩ = some (.int .i64 x.s.n) := y1
            have z2 : wx.drew.cell? ⟨wr.heap.size, 2, none⟩ = some (.slice (some ⟨xh, 0, none⟩) x.s.vs.length xc) := y2
            have z3 : wx.drew.cell? ⟨wr.heap.size, 3, none⟩ = some (.bool x.s.sy) := y3
            clear y0 y1 y2 y3
            go_simp
            first | done | exact rfl
          simp only [List.setIfInBounds_toArray, List.set_cons_zero, List.set_cons_succ]
          have hbwx : Below w.heap.size w wx.drew := (B5.out.trans (BX.out.mono (by omega))).drew
          refine one_call (i := 4) (w0 := wx.drew) 40 45 #[x.val] (by kernel_rfl) rfl rfl (by rfl) (by kernel_rfl) ?_
          refine (refLast_rx x wx.drew (HXO.out.below hbwx)).mono ?_
          rintro e w5 ⟨rfl, hb5⟩
          have hS5 : SN wr.heap.size x w5 := HS.out.below (by show wr.heap.size < wx.heap.size; omega) hb5
          have hs5 : wr.heap.size + 1 ≤ w5.heap.size := by have := hb5.size; have e : wx.drew.heap.size = wx.heap.size := rfl; omega
          refine ⟨_, rfl, hS5, fun _ => ?_⟩
          simp only [List.setIfInBounds_toArray, List.set_cons_zero, List.set_cons_succ]
          obtain ⟨u, hu⟩ : ∃ u, x.s.vs.getLastD [] = u := ⟨_, rfl⟩
          rw [hu]
          obtain ⟨w6, hw6⟩ : ∃ w6, w5.alloc (.cells #[.string (strB u)] 9) = w6 := ⟨_, rfl⟩
          have hb6 : Below w5.heap.size w5 w6 := hw6 ▸ (Below.refl _ w5).alloc (Nat.le_refl _) _
          have hst6 : w6.heap[w5.heap.size]? = some (.cells #[.string (strB u)] 9 (0, 0)) := hw6 ▸ alloc_new _ _
          have hS6 : SN wr.heap.size x w6 := hS5.below (by omega) hb6
          refine one_value (i := 5) (v := .slice (some ⟨w5.heap.size, 0, none⟩) 1 1) (w' := w6) 41 (by kernel_rfl) rfl rfl (by rfl) ?_ hS6 (fun _ => ?_)
          · rw [← hw6]
            go_simp
            first | done | exact rfl
          simp only [List.setIfInBounds_toArray, List.set_cons_zero, List.set_cons_succ]
          refine one_value (i := 6) (v := .agg #[.int .u64 a, .int .i64 x.s.n, .slice (some ⟨w5.heap.size, 0, none⟩) 1 1, .bool true]) (w' := w6) 42 (by kernel_rfl) rfl rfl (by rfl) (by go_simp; first | done | exact rfl) hS6 (fun _ => ?_)
          simp only [List.setIfInBounds_toArray, List.set_cons_zero, List.set_cons_succ]
          have hb56 : Below wr.heap.size wx.drew w6 := (hb5.mono (by show wr.heap.size ≤ wx.heap.size; omega)).trans (hb6.mono (by omega))
          have hbk6 : w6.heap[wr.heap.size]? = some (.cells #[.int .u64 x.s.area, .int .i64 x.s.n, .slice (some ⟨xh, 0, none⟩) x.s.vs.length xc, .bool x.s.sy] 95 (0, 0)) := (hb6.block _ (by omega)).trans ((hb5.block _ (by show wr.heap.size < wx.heap.size; omega)).trans hbx)
          have BR6 : Below wr.heap.size wr w6 := BX.out.drew.trans hb56
          obtain ⟨w8, hw8⟩ : ∃ w8, (((w6.setCell ⟨wr.heap.size, 0, none⟩ (.int .u64 a)).setCell ⟨wr.heap.size, 1, none⟩ (.int .i64 x.s.n)).setCell ⟨wr.heap.size, 2, none⟩ (.slice (some ⟨w5.heap.size, 0, none⟩) 1 1)).setCell ⟨wr.heap.size, 3, none⟩ (.bool true) = w8 := ⟨_, rfl⟩
          have hbk8 : w8.heap[wr.heap.size]? = some (.cells #[.int .u64 a, .int .i64 x.s.n, .slice (some ⟨w5.heap.size, 0, none⟩) 1 1, .bool true] 95 (0, 0)) := by
            rw [← hw8, set_cell (set_cell (set_cell (set_cell hbk6 0 _) 1 _) 2 _) 3 _]
            rfl
          have BR8 : Hid (Below wr.heap.size wr w8) := hw8 ▸ (((BR6.setCell (Nat.le_refl _) _).setCell (Nat.le_refl _) _).setCell (Nat.le_refl _) _).setCell (Nat.le_refl _) _
          have hst8 : w8.heap[w5.heap.size]? = some (.cells #[.string (strB u)] 9 (0, 0)) := by
            have hne : w5.heap.size ≠ wr.heap.size := by omega
            rw [← hw8, Below.heap_setCell _ _ _ _ hne, Below.heap_setCell _ _ _ _ hne, Below.heap_setCell _ _ _ _ hne, Below.heap_setCell _ _ _ _ hne]
            exact hst6
          obtain ⟨q0, q1, q2, q3, qz⟩ := four_cells hbk8
          refine one_skip (i := 7) (w' := w8) (by kernel_rfl) rfl rfl (by rfl) ?_ ⟨by rw [EA.out]; exact q0, q1⟩ (fun _ => ?_)
          · obtain ⟨k0, k1, k2, k3, kz⟩ := four_cells hbk6
            rw [← hw8]
            clear q0 q1 q2 q3 qz hbk8 hst8 hw8
            go_simp
            first | done | exact rfl
          refine wpAnyH_done (by kernel_rfl) ?_ _
          have HST8 : Hid (w8.heap[w5.heap.size]? = some (.cells #[.string (strB u)] 9 (0, 0))) := hst8
          have hs8 : w5.heap.size < w8.heap.size := (Array.getElem?_eq_some_iff.1 hst8).1
          have HSY : Hid ((⟨a, x.s.n, [u], true⟩ : RS) = syR a x.s) := by
            show (⟨a, x.s.n, [u], true⟩ : RS) = _
            rw [syR, if_pos EA.out, hu]
          have HN8 : Hid (NewStr (w.heap.size + 2) w8 ⟨⟨a, x.s.n, [u], true⟩, .slice (some ⟨w5.heap.size, 0, none⟩) 1 1⟩) := ⟨w5.heap.size, u, rfl, by omega, hst8, rfl⟩
          have HO8 : Hid (SecOwn (w.heap.size + 2) w8 (.slice av acc.length ac) acc) := HI.out.own.below BR8.out
          clear hHeld hbwx hb5 hS5 hu hw6 hb6 hst6 hS6 hb56 hbk6 BR6 hw8 hbk8 hst8 hbx y0 y1 y2 y3 yz x0 x1 x2 x3 HS BX
          go_wp2_with (at_builtin; refine append_sec rfl _ _ rfl (w.heap.size + 2) _ acc ⟨⟨a, x.s.n, [u], true⟩, .slice (some ⟨w5.heap.size, 0, none⟩) 1 1⟩ rfl (HO8.out.alloc _) _ _ rfl (four_new _ ⟨⟨a, x.s.n, [u], true⟩, .slice (some ⟨w5.heap.size, 0, none⟩) 1 1⟩ _ _ _ (by simp) rfl) w8 (HN8.out.ok P) (by omega) (by simp; omega) ?_; intro v' w' ho' hb' hk'; obtain ⟨bv2, bc2, rfl⟩ := ho'.shape; have HO : Hid (SecOwn (w.heap.size + 2) w' (.slice bv2 (acc ++ [(⟨⟨a, x.s.n, [u], true⟩, .slice (some ⟨w5.heap.size, 0, none⟩) 1 1⟩ : RX)]).length bc2) (acc ++ [(⟨⟨a, x.s.n, [u], true⟩, .slice (some ⟨w5.heap.size, 0, none⟩) 1 1⟩ : RX)])) := ho'; have HB : Hid (Below (w.heap.size + 2) w8 w') := (((Below.refl _ w8).alloc (by omega) _)).trans hb'; have HK := own_strs (HO8.out.alloc _) hk'; clear hk' ho' hb')
          have HK8 : ∀ k : Nat, (∃ C, w8.heap[k]? = some (.cells C 9 (0, 0))) → w'.heap[k]? = w8.heap[k]? := fun k hk => by
            obtain ⟨C, hC⟩ := hk
            have e1 := alloc_old w8 (.cells #[.int .u64 a, .int .i64 x.s.n, .slice (some ⟨w5.heap.size, 0, none⟩) 1 1, .bool true] 95) (k := k) (Array.getElem?_eq_some_iff.1 hC).1
            rw [HK k ⟨C, e1.trans hC⟩, e1]
          go_roundw
          case rel =>
            refine HI.out.next HM.out HSY.out (by simpa using HO.out) (.inr (HN8.out.same HK8)) (fun k hk => ?_) ((BR8.out.mono (by omega)).trans HB.out) (by first | rfl | go_num)
            obtain ⟨C, hC⟩ := hk
            have e1 := BR8.out.block k (Array.getElem?_eq_some_iff.1 hC).1
            rw [HK8 k ⟨C, e1.trans hC⟩, e1]
          case measure => simp [intOf]; omega
        · have e1 : (x.s.area == a) = false := by simpa using ea
          have HSY : Hid (x.s = syR a x.s) := by
            show x.s = _
            rw [syR, if_neg ea]
          clear ea
          go_wp2_with (at_builtin; refine append_sec rfl _ _ rfl (w.heap.size + 2) _ acc x rfl ((HI.out.own.alloc _).alloc _) _ _ rfl (four_new _ _ _ _ _ (by simp) exl) w HXO.out (by omega) (by simp; omega) ?_; intro v' w' ho' hb' hk'; obtain ⟨bv2, bc2, rfl⟩ := ho'.shape; have HO : Hid (SecOwn (w.heap.size + 2) w' (.slice bv2 (acc ++ [x]).length bc2) (acc ++ [x])) := ho'; have HB : Hid (Below (w.heap.size + 2) wr w') := (((Below.refl _ wr).alloc (by omega) _).alloc (by simp; omega) _).trans hb'; have HK := own_strs ((HI.out.own.alloc _).alloc _) hk'; clear hk' ho' hb')
          go_roundw
          case rel =>
            refine HI.out.next HM.out HSY.out (by simpa using HO.out) (.inl HXO.out) (fun k hk => ?_) HB.out (by first | rfl | go_num)
            obtain ⟨C, hC⟩ := hk
            have hkl := (Array.getElem?_eq_some_iff.1 hC).1
            have e1 := alloc_old wr (.cells #[.int .u64 x.s.area, .int .i64 x.s.n, .slice (some ⟨xh, 0, none⟩) x.s.vs.length xc, .bool x.s.sy] 95) hkl
            have e2 := alloc_old (wr.alloc (.cells #[.int .u64 x.s.area, .int .i64 x.s.n, .slice (some ⟨xh, 0, none⟩) x.s.vs.length xc, .bool x.s.sy] 95)) (.cells #[.int .u64 x.s.area, .int .i64 x.s.n, .slice (some ⟨xh, 0, none⟩) x.s.vs.length xc, .bool x.s.sy] 95) (k := k) (by simp; omega)
            rw [HK k ⟨C, by rw [e2, e1]; exact hC⟩, e2, e1]
          case measure => simp [intOf]; omega
      · have hxn : ¬ ((i : Int) < (X.length : Int)) := by omega
        have hii : i = X.length := by omega
        have hb6 : Below w.heap.size w (wr.setCell ⟨w.heap.size, 5, none⟩ (.slice av acc.length ac)) := B5.out.setCell (Nat.le_refl _) _
        have D6 : DskAt (wr.setCell ⟨w.heap.size, 5, none⟩ (.slice av acc.length ac)) w.heap.size r4 (.slice av acc.length ac) := set_cell D5.out 5 _
        have R6 : DskAt (wr.setCell ⟨w.heap.size, 5, none⟩ (.slice av acc.length ac)) (w.heap.size + 1) rd0 (.slice none 0 0) := (Below.heap_setCell _ _ _ _ (by show w.heap.size + 1 ≠ w.heap.size; omega)).trans R5.out
        have hld6 := loadD_at D6
        have hst6 := storeD_at (r := r4) (ad := av) (n := acc.length) (c := ac) R6
        obtain ⟨w7, hw7⟩ : ∃ w7, setD (wr.setCell ⟨w.heap.size, 5, none⟩ (.slice av acc.length ac)) (w.heap.size + 1) r4 (.slice av acc.length ac) = w7 := ⟨_, rfl⟩
        rw [hw7] at hst6
        have R7 : Hid (DskAt w7 (w.heap.size + 1) r4 (.slice av acc.length ac)) := hw7 ▸ R6.set
        have B7 : Hid (Below w.heap.size w w7) := hw7 ▸ setD_below hb6 (by omega) _ _
        have F7 : Hid (∀ k, w.heap.size + 2 ≤ k → w7.heap[k]? = wr.heap[k]?) := fun k hk => by
          rw [← hw7, setD_far _ _ _ _ _ (by omega)]
          exact Below.heap_setCell _ _ _ _ (by show k ≠ w.heap.size; omega)
        clear hw7 D6 R6 hb6
        go_wp2_with fail
        refine retD2 rfl rfl rfl R7.out rfl ?_
        refine ⟨r4, .slice av acc.length ac, acc, 0, rfl, ?_, B7.out, .inr (.inr ⟨hd, HDI.out, HR4.out.symm, ?_, rfl⟩)⟩
        · refine SecOwn.row (B := w.heap.size + 2) ?_ (by omega) (fun b hb => .inr (by omega)) (fun x hx => ?_)
          · obtain ⟨g1, g2 | ⟨g, gc, cur, e, k1, k2, k3⟩⟩ := HI.out.own
            · exact ⟨g1, .inl g2⟩
            · exact ⟨g1, .inr ⟨g, gc, cur, e, k1, (F7.out g k1).trans k2, k3⟩⟩
          · rcases HI.out.ok x hx with h | h
            · exact (h.below B7.out).mono fun b _ h => .inl h
            · obtain ⟨h, u, e, h0, hb, hv⟩ := h
              exact (NewStr.ok ⟨h, u, e, h0, (F7.out h h0).trans hb, hv⟩ P).mono fun b _ h => h.imp id (fun h => by omega)
        · rw [HI.out.eq, hii, List.take_length]
end Go.Proofs.Ytpmmpdkeahmdiaa

/- The reference of the disk: Free. -/
namespace Go.Proofs.Ytpmmpdkeahmdiaa
open Go.RowKit
set_option maxRecDepth 100000

attribute [local go_sem ↓] exec_alloc_D exec_box_D exec_load_D exec_store_D
attribute [local go_sem] rdV_cells rdC_0 rdC_1 rdC_2 rdC_3 rdC_4 rdC_5
def FrSays (P : Nat → Prop) (r : RD) (X : List RX) (a : Int) (w : World) (e : Ending) (w' : World) : Prop :=
  ∃ r' l' X' c, e = .returned (.tuple #[rdV r' l', .int .i64 c]) ∧ SecRow (fun b => P b ∨ w.heap.size ≤ b) w' l' X' ∧ Below w.heap.size w w' ∧
    ((r.dead = true ∧ r' = r ∧ X' = X ∧ c = 30) ∨ (r.dead = false ∧ rdDies r = true ∧ r' = rdStep r ∧ X' = X ∧ c = 30) ∨ (r.dead = false ∧ rdDies r = false ∧ r' = { rdStep r with room := (rdStep r).room + ((X.filter fun x => x.s.area = a).length : Int) } ∧ X' = (X.filter fun x => x.s.area ≠ a) ∧ c = 0))
set_option maxHeartbeats 2000000 in
theorem refFree_dead (P : Nat → Prop) (r : RD) (l : Value) (X : List RX) (a : Int) (w : World) (hX : SecRow P w l X) (hd : r.dead = true) :
    Calls Try.prog 49 #[rdV r l, .int .u64 a] w (FrSays P r X a w) := by
  obtain ⟨ad, cap, rfl, _⟩ := id hX
  obtain ⟨t1, t2, t3, t4⟩ := two0_at w r (.slice ad X.length cap)
  have hld := loadD_at t1
  have hst := storeD_at (r := r) (ad := ad) (n := X.length) (c := cap) t2
  have HE : Hid (FrSays P r X a w (.returned (.tuple #[rdV r (.slice ad X.length cap), .int .i64 30])) (setD (two0 w r (.slice ad X.length cap)) (w.heap.size + 1) r (.slice ad X.length cap))) := by
    have hb := setD_below t3 (b := w.heap.size + 1) (by omega) r (.slice ad X.length cap)
    exact ⟨r, .slice ad X.length cap, X, 30, rfl, (hX.below hb).mono fun b _ h => .inl h, hb, .inl ⟨hd, rfl, rfl, rfl⟩⟩
  have HR : Hid (DskAt (setD (two0 w r (.slice ad X.length cap)) (w.heap.size + 1) r (.slice ad X.length cap)) (w.heap.size + 1) r (.slice ad X.length cap)) := t2.set
  clear hX t1 t2 t3 t4
  obtain ⟨w5, hw5⟩ : ∃ w5, setD (two0 w r (.slice ad X.length cap)) (w.heap.size + 1) r (.slice ad X.length cap) = w5 := ⟨_, rfl⟩
  rw [hw5] at hst HE HR
  clear hw5
  unfold two0 at hld hst
  go_enter Try.func49, Try.ntmps49
  go_wp2
  exact retD2 rfl rfl rfl HR.out rfl HE.out
theorem rdStep_room (r : RD) : (rdStep r).room = r.room := by unfold rdStep; split <;> (try split) <;> rfl
structure FreeR (w : World) (r4 : RD) (ad : Option Addr) (cap : Nat) (a : Int) (X : List RX) (v7 v8 : Value) (wr : World) (i : Nat) (acc : List RX) : Prop where
  e8 : v8 = .int .i64 i
  hi : i ≤ X.length
  own : SecOwn (w.heap.size + 2) wr v7 acc
  eq : acc = (X.take i).filter fun x => x.s.area ≠ a
  dk : DskAt wr w.heap.size { r4 with room := r4.room + (((X.take i).filter fun x => x.s.area = a).length : Int) } (.slice ad X.length cap)
  rk : DskAt wr (w.heap.size + 1) rd0 (.slice none 0 0)
  below : Below w.heap.size w wr
theorem FreeR.len {w : World} {r4 : RD} {ad : Option Addr} {cap : Nat} {a : Int} {X : List RX} {v7 v8 : Value} {wr : World} {i : Nat} {acc : List RX} (h : FreeR w r4 ad cap a X v7 v8 wr i acc) : acc.length ≤ i := by
  rw [h.eq]
  exact Nat.le_trans (List.length_filter_le _ _) (List.length_take_le i X)
theorem take_snoc {X : List RX} {i : Nat} {x : RX} (hx : X[i]? = some x) : X.take (i + 1) = X.take i ++ [x] := by rw [List.take_add_one, hx]; rfl
theorem FreeR.skip {w : World} {r4 : RD} {ad : Option Addr} {cap : Nat} {a : Int} {X : List RX} {v7 v8 : Value} {wr : World} {i k : Nat} {acc : List RX} {x : RX} (h : FreeR w r4 ad cap a X v7 v8 wr i acc) (hx : X[i]? = some x) (ea : x.s.area = a) (hk : ((X.take i).filter fun x => x.s.area = a).length = k) (hD : DskAt wr w.heap.size { r4 with room := r4.room + (k : Int) } (.slice ad X.length cap)) :
    ∃ i' acc', FreeR w r4 ad cap a X v7 (.int .i64 ((i : Int) + 1)) (wr.setCell ⟨w.heap.size, 0, none⟩ (.int .i64 (r4.room + (k : Int) + 1))) i' acc' := by
  have hin := (List.getElem?_eq_some_iff.1 hx).1
  have e1 : (X.take (i + 1)).filter (fun x => decide (x.s.area ≠ a)) = (X.take i).filter fun x => x.s.area ≠ a := by rw [take_snoc hx, List.filter_append]; simp [ea]
  have e2 : ((X.take (i + 1)).filter fun x => x.s.area = a).length = k + 1 := by rw [take_snoc hx, List.filter_append, List.length_append, hk]; simp [ea]
  refine ⟨i + 1, acc, rfl, hin, ?_, by rw [e1]; exact h.eq, ?_, ?_, h.below.setCell (Nat.le_refl _) _⟩
  · obtain ⟨g1, g2 | ⟨g, gc, cur, e, k1, k2, k3⟩⟩ := h.own
    · exact ⟨g1, .inl g2⟩
    · exact ⟨g1, .inr ⟨g, gc, cur, e, k1, (Below.heap_setCell _ _ _ _ (by show g ≠ w.heap.size; omega)).trans k2, k3⟩⟩
  · rw [e2]
    have := set_cell hD 0 (.int .i64 (r4.room + (k : Int) + 1))
    have e3 : r4.room + ((k + 1 : Nat) : Int) = r4.room + (k : Int) + 1 := by omega
    rw [e3]
    exact this
  · exact (Below.heap_setCell _ _ _ _ (by show w.heap.size + 1 ≠ w.heap.size; omega)).trans h.rk
theorem FreeR.keep {w : World} {r4 : RD} {ad : Option Addr} {cap : Nat} {a : Int} {X : List RX} {v7 v8 v7' : Value} {wr wr' : World} {i : Nat} {acc : List RX} {x : RX} (h : FreeR w r4 ad cap a X v7 v8 wr i acc) (hx : X[i]? = some x) (ea : x.s.area ≠ a) (hown : SecOwn (w.heap.size + 2) wr' v7' (acc ++ [x])) (hb : Below (w.heap.size + 2) wr wr') :
    ∃ i' acc', FreeR w r4 ad cap a X v7' (.int .i64 ((i : Int) + 1)) wr' i' acc' := by
  have hin := (List.getElem?_eq_some_iff.1 hx).1
  have e1 : (X.take (i + 1)).filter (fun x => decide (x.s.area ≠ a)) = ((X.take i).filter fun x => x.s.area ≠ a) ++ [x] := by rw [take_snoc hx, List.filter_append]; simp [ea]
  have e2 : ((X.take (i + 1)).filter fun x => x.s.area = a) = (X.take i).filter fun x => x.s.area = a := by rw [take_snoc hx, List.filter_append]; simp [ea]
  refine ⟨i + 1, acc ++ [x], rfl, hin, hown, by rw [e1, ← h.eq], ?_, h.rk.below (by omega) hb, h.below.trans (hb.mono (by omega))⟩
  rw [e2]
  exact h.dk.below (by omega) hb
set_option maxHeartbeats 2000000 in
theorem refFree_rest (P : Nat → Prop) (r : RD) (l : Value) (X : List RX) (a : Int) (w : World) (hX : SecRow P w l X) (hd : r.dead = false) (h1 : 0 ≤ r.steps) (h2 : r.steps < 4611686018427387904) (h3 : -9223372036854775808 ≤ r.left) (h4 : r.left ≤ 9223372036854775807) (h5 : r.armed = true → 0 ≤ r.left) (hr1 : 0 ≤ r.room) (hr2 : r.room + (X.length : Int) ≤ 9223372036854775807) :
    Calls Try.prog 49 #[rdV r l, .int .u64 a] w (FrSays P r X a w) := by
  obtain ⟨ad, cap, rfl, hlX, _⟩ := id hX
  have HX : Hid (SecRow P w (.slice ad X.length cap) X) := hX
  obtain ⟨t1, t2, t3, t4⟩ := two0_at w r (.slice ad X.length cap)
  have hld := loadD_at t1
  obtain ⟨w2, hw2⟩ : ∃ w2, two0 w r (.slice ad X.length cap) = w2 := ⟨_, rfl⟩
  have HW2 : Hid ((w.alloc (.cells (rdC r (.slice ad X.length cap)) 27)).alloc (.cells (rdC rd0 (.slice none 0 0)) 27) = w2) := hw2
  unfold two0 at hld
  rw [hw2] at t1 t2 t3 t4
  have T1 : Hid (DskAt w2 w.heap.size r (.slice ad X.length cap)) := t1
  have T2 : Hid (DskAt w2 (w.heap.size + 1) rd0 (.slice none 0 0)) := t2
  have T3 : Hid (Below w.heap.size w w2) := t3
  clear hX hw2 t1 t2 t3
  go_enter Try.func49, Try.ntmps49
  go_wp2_with fail
  rw [HW2.out]
  clear hld HW2
  refine (refStep_any r ad X.length cap w2 h1 h2 h3 h4 h5).mono ?_
  rintro e w3 ⟨rfl, hb3⟩
  have hD3 := T1.out.below (by omega) hb3
  have D3 : Hid (DskAt w3 w.heap.size r (.slice ad X.length cap)) := hD3
  have R3 : Hid (DskAt w3 (w.heap.size + 1) rd0 (.slice none 0 0)) := T2.out.below (by omega) hb3
  have B3 : Hid (Below w.heap.size w w3) := T3.out.trans (hb3.mono (by omega))
  obtain ⟨r4, hr4⟩ : ∃ r4, rdStep r = r4 := ⟨_, rfl⟩
  have hrm : r4.room = r.room := by rw [← hr4, rdStep_room]
  rw [← hrm] at hr1 hr2
  clear hrm
  rw [hr4]
  have hst3 := storeD_at (r := r4) (ad := ad) (n := X.length) (c := cap) hD3
  obtain ⟨w4, hw4⟩ : ∃ w4, setD w3 w.heap.size r4 (.slice ad X.length cap) = w4 := ⟨_, rfl⟩
  rw [hw4] at hst3
  have D4 : Hid (DskAt w4 w.heap.size r4 (.slice ad X.length cap)) := hw4 ▸ hD3.set
  have R4 : Hid (DskAt w4 (w.heap.size + 1) rd0 (.slice none 0 0)) := hw4 ▸ R3.out.far (by omega)
  have B4 : Hid (Below w.heap.size w w4) := hw4 ▸ setD_below B3.out (Nat.le_refl _) _ _
  have hld4 := loadD_at D4.out
  have hs4 := R4.out.lt
  clear hb3 hD3 hw4 T1 T2 T3 t4 D3 R3 B3
  obtain ⟨dies, hdies⟩ : ∃ b, rdDies r = b := ⟨_, rfl⟩
  have HDI : Hid (rdDies r = dies) := hdies
  rw [hdies]
  clear hdies
  have HR4 : Hid (rdStep r = r4) := hr4
  clear hr4
  cases dies with
  | true =>
    have hst5 := storeD_at (r := r4) (ad := ad) (n := X.length) (c := cap) R4.out
    have HE : Hid (FrSays P r X a w (.returned (.tuple #[rdV r4 (.slice ad X.length cap), .int .i64 30])) (setD w4 (w.heap.size + 1) r4 (.slice ad X.length cap))) := by
      have hb := setD_below B4.out (b := w.heap.size + 1) (by omega) r4 (.slice ad X.length cap)
      exact ⟨r4, .slice ad X.length cap, X, 30, rfl, (HX.out.below hb).mono fun b _ h => .inl h, hb, .inr (.inl ⟨hd, HDI.out, HR4.out.symm, rfl, rfl⟩)⟩
    have HR : Hid (DskAt (setD w4 (w.heap.size + 1) r4 (.slice ad X.length cap)) (w.heap.size + 1) r4 (.slice ad X.length cap)) := R4.out.set
    obtain ⟨w5, hw5⟩ : ∃ w5, setD w4 (w.heap.size + 1) r4 (.slice ad X.length cap) = w5 := ⟨_, rfl⟩
    rw [hw5] at hst5 HE HR
    clear hw5
    go_wp2_with fail
    exact retD2 rfl rfl rfl HR.out rfl HE.out
  | false =>
    go_wp2_with fail
    clear hst3 hld4
    go_loopw [7, 8] (fun v7 v8 wr => ∃ i acc, FreeR w r4 ad cap a X v7 v8 wr i acc) (fun _ v8 _ => X.length - (intOf v8).toNat)
    case atStart => exact ⟨0, [], rfl, Nat.zero_le _, SecOwn.nil _ _, rfl, by simpa using D4.out, R4.out, B4.out⟩
    case round =>
      obtain ⟨i, acc, hI⟩ := hrel
      have HI : Hid (FreeR w r4 ad cap a X _ _ wr i acc) := hI
      have hal : acc.length ≤ i := hI.len
      obtain ⟨rfl, hi, hown, heq, hD5, hR5, hbw⟩ := hI
      have hsr := hR5.lt
      have hcn : (((X.take i).filter fun x => x.s.area = a).length : Int) ≤ i := by
        have h1 := List.length_filter_le (fun x : RX => decide (x.s.area = a)) (X.take i)
        have h2 := List.length_take_le i X
        omega
      obtain ⟨k, hk⟩ : ∃ k : Nat, ((X.take i).filter fun x => x.s.area = a).length = k := ⟨_, rfl⟩
      have HK : Hid (((X.take i).filter fun x => x.s.area = a).length = k) := hk
      rw [hk] at hcn hD5
      have D5 : Hid (DskAt wr w.heap.size { r4 with room := r4.room + (k : Int) } (.slice ad X.length cap)) := hD5
      have R5 : Hid (DskAt wr (w.heap.size + 1) rd0 (.slice none 0 0)) := hR5
      have B5 : Hid (Below w.heap.size w wr) := hbw
      obtain ⟨d0, d1, d2, d3, d4, d5, dz⟩ := hD5.cells
      obtain ⟨av, ac, rfl⟩ := hown.shape
      clear hown heq hbw hD5 hR5 hk d1 d2 d3 d4
      have n1 : w.heap.size < wr.heap.size := by omega
      have n2 : w.heap.size + 1 < wr.heap.size := by omega
      by_cases hin : i < X.length
      · obtain ⟨_, _, eX, _, hcs, hokX⟩ := id HX.out
        obtain ⟨g, hg0, _, hg, hx4⟩ := hcs (by omega)
        simp only [Value.slice.injEq] at eX
        rw [← eX.1] at hg0
        subst hg0
        obtain ⟨x, hx⟩ : ∃ x, X[i]? = some x := ⟨_, List.getElem?_eq_getElem hin⟩
        obtain ⟨x0, x1, x2, x3⟩ := (hx4 i x hx).below hg B5.out
        have hxok := hokX x (List.mem_of_getElem? hx)
        have HXO : Hid (x.ok P w) := hxok
        obtain ⟨⟨xh, xc, exl, _, _, _⟩, _⟩ := id hxok
        have HM : Hid (X[i]? = some x) := hx
        rw [exl] at x2
        clear hcs hokX eX hx4 hx hxok
        by_cases ea : x.s.area = a
        · have e1 : (x.s.area != a) = false := by simp [ea]
          have EA : Hid (x.s.area = a) := ea
          have hb0 : -9223372036854775808 ≤ r4.room + (k : Int) + 1 := by omega
          have hb1 : r4.room + (k : Int) + 1 ≤ 9223372036854775807 := by omega
          clear ea
          go_wp2_with fail
          go_roundw
          case rel => exact HI.out.skip HM.out EA.out HK.out D5.out
          case measure => simp [intOf]; omega
        · have e1 : (x.s.area != a) = true := by simpa using ea
          have EA : Hid (x.s.area ≠ a) := ea
          clear ea
          go_wp2_with (at_builtin; refine append_sec rfl _ _ rfl (w.heap.size + 2) _ acc x rfl (HI.out.own.alloc _) _ _ rfl (four_new _ _ _ _ _ (by simp) exl) w HXO.out (by omega) (by simp; omega) ?_; intro v' w' ho' hb' hk'; obtain ⟨bv2, bc2, rfl⟩ := ho'.shape; have HO : Hid (SecOwn (w.heap.size + 2) w' (.slice bv2 (acc ++ [x]).length bc2) (acc ++ [x])) := ho'; have HB : Hid (Below (w.heap.size + 2) wr w') := ((Below.refl _ wr).alloc (by omega) _).trans hb'; clear hk' ho' hb')
          go_roundw
          case rel => exact HI.out.keep HM.out EA.out (by simpa using HO.out) HB.out
          case measure => simp [intOf]; omega
      · have hxn : ¬ ((i : Int) < (X.length : Int)) := by omega
        have hii : i = X.length := by omega
        have hb6 : Below w.heap.size w (wr.setCell ⟨w.heap.size, 5, none⟩ (.slice av acc.length ac)) := B5.out.setCell (Nat.le_refl _) _
        obtain ⟨rq, hrq⟩ : ∃ rq : RD, rq = { r4 with room := r4.room + (k : Int) } := ⟨_, rfl⟩
        have D6 : DskAt (wr.setCell ⟨w.heap.size, 5, none⟩ (.slice av acc.length ac)) w.heap.size rq (.slice av acc.length ac) := by rw [hrq]; exact set_cell D5.out 5 _
        have R6 : DskAt (wr.setCell ⟨w.heap.size, 5, none⟩ (.slice av acc.length ac)) (w.heap.size + 1) rd0 (.slice none 0 0) := (Below.heap_setCell _ _ _ _ (by show w.heap.size + 1 ≠ w.heap.size; omega)).trans R5.out
        have hld6 := loadD_at D6
        have hst6 := storeD_at (r := rq) (ad := av) (n := acc.length) (c := ac) R6
        obtain ⟨w7, hw7⟩ : ∃ w7, setD (wr.setCell ⟨w.heap.size, 5, none⟩ (.slice av acc.length ac)) (w.heap.size + 1) rq (.slice av acc.length ac) = w7 := ⟨_, rfl⟩
        rw [hw7] at hst6
        have R7 : Hid (DskAt w7 (w.heap.size + 1) rq (.slice av acc.length ac)) := hw7 ▸ R6.set
        have B7 : Hid (Below w.heap.size w w7) := hw7 ▸ setD_below hb6 (by omega) _ _
        have F7 : Hid (∀ k, w.heap.size + 2 ≤ k → w7.heap[k]? = wr.heap[k]?) := fun k hk => by
          rw [← hw7, setD_far _ _ _ _ _ (by omega)]
          exact Below.heap_setCell _ _ _ _ (by show k ≠ w.heap.size; omega)
        have HRQ : Hid (rq = { r4 with room := r4.room + (k : Int) }) := hrq
        clear hw7 D6 R6 hb6 hrq
        go_wp2_with fail
        refine retD2 rfl rfl rfl R7.out rfl ?_
        have hacc : acc = X.filter fun x => x.s.area ≠ a := by rw [HI.out.eq, hii, List.take_length]
        refine ⟨rq, .slice av acc.length ac, acc, 0, rfl, ?_, B7.out, .inr (.inr ⟨hd, HDI.out, ?_, hacc, rfl⟩)⟩
        · refine SecOwn.row (B := w.heap.size + 2) ?_ (by omega) (fun b hb => .inr (by omega)) (fun x hx => ?_)
          · obtain ⟨g1, g2 | ⟨g, gc, cur, e, k1, k2, k3⟩⟩ := HI.out.own
            · exact ⟨g1, .inl g2⟩
            · exact ⟨g1, .inr ⟨g, gc, cur, e, k1, (F7.out g k1).trans k2, k3⟩⟩
          · obtain ⟨_, _, _, _, _, hokX⟩ := HX.out
            rw [hacc] at hx
            exact ((hokX x (List.mem_filter.1 hx).1).below B7.out).mono fun b _ h => .inl h
        · rw [HRQ.out, HR4.out, ← HK.out, hii, List.take_length]
end Go.Proofs.Ytpmmpdkeahmdiaa

/- The reference's calls, over the disk as the document has it. -/
namespace Go.Proofs.Ytpmmpdkeahmdiaa
open Go.RowKit
set_option maxRecDepth 100000

/-- What a call of the reference answers: the disk d', and c. -/
def RefSays (P : Nat → Prop) (d' : DS) (c : Int) (w : World) (e : Ending) (w' : World) : Prop := ∃ v', e = .returned (.tuple #[v', .int .i64 c]) ∧ RefIs (fun b => P b ∨ w.heap.size ≤ b) w' v' d' ∧ Below w.heap.size w w'
theorem rdStep_with (r : RD) (x : Int) : rdStep { r with room := x } = { rdStep r with room := x } := by
  unfold rdStep
  have e : rdDies { r with room := x } = rdDies r := rfl
  rw [e]
  split
  · rfl
  · simp only
    split <;> rfl
theorem dies_e (d : DS) (h : d.dead = false) : (if rdDies (rdOf d) then (30 : Int) else 0) = stepE d := by
  rw [rdDies_eq d h]
  by_cases h0 : stepE d = 0
  · simp [h0]
  · rw [stepE_30 d h0]; simp
theorem no_find {d : DS} {X : List RX} {a n : Int} (hX : X.map RX.s = d.secs.map toRS) (h : ∀ x ∈ X, ¬ (x.s.area = a ∧ x.s.n = n)) : findS a n d.secs = none := by
  refine findS_none_of fun s hs hh => ?_
  have : toRS s ∈ X.map RX.s := by rw [hX]; exact List.mem_map.2 ⟨s, hs, rfl⟩
  obtain ⟨x, hx, e⟩ := List.mem_map.1 this
  refine h x hx ?_
  rw [e]; exact hh
theorem is_find {d : DS} {X : List RX} {x : RX} (hs : d.secs.Pairwise Sec.before) (hX : X.map RX.s = d.secs.map toRS) (hx : x ∈ X) : ∃ s, findS x.s.area x.s.n d.secs = some s ∧ toRS s = x.s := by
  have : x.s ∈ d.secs.map toRS := by rw [← hX]; exact List.mem_map.2 ⟨x, hx, rfl⟩
  obtain ⟨s, hm, e⟩ := List.mem_map.1 this
  refine ⟨s, ?_, e⟩
  rw [← e]
  exact findS_self hs hm
theorem ref_lens {N : Nat} {d : DS} {X : List RX} (hd : DsOk N d) (hN : N < 1099511627776) (hX : X.map RX.s = d.secs.map toRS) : X.length = d.secs.length ∧ X.length < 1099511627776 ∧ ∀ x ∈ X, x.s.vs.length ≤ 1099511627777 := by
  have hl : X.length = d.secs.length := by have := congrArg List.length hX; simpa using this
  refine ⟨hl, by have := hd.len; omega, fun x hx => ?_⟩
  have : x.s ∈ d.secs.map toRS := by rw [← hX]; exact List.mem_map.2 ⟨x, hx, rfl⟩
  obtain ⟨s, hm, e⟩ := List.mem_map.1 this
  rw [← e]
  have := hd.fresh s hm
  simp only [toRS, List.length_append]
  cases s.last <;> simp <;> omega
theorem refWrite_any (P : Nat → Prop) (N M : Nat) (d : DS) (v : Value) (a n : Int) (y : Value) (xs : List Nat) (w : World) (h : RefIs P w v d) (hd : DsOk N d) (hN : N < 1099511627776) (hr : Row M w y xs) (hM : M ≤ w.heap.size) (hl : xs.length ≤ 9223372036854775807) :
    Calls Try.prog 47 #[v, .int .u64 a, .int .i64 n, y] w (RefSays P (wrD d a n xs) (wrE d a n xs) w) := by
  obtain ⟨l, X, rfl, hS, hX⟩ := h
  obtain ⟨hl1, hl2, hl3⟩ := ref_lens hd hN hX
  have key : Calls Try.prog 47 #[rdV (rdOf d) l, .int .u64 a, .int .i64 n, y] w (WrSays P (rdOf d) X a n xs w) := by
    cases hdd : d.dead with
    | true => exact refWrite_dead P (rdOf d) l X a n y xs w hS hdd
    | false =>
      by_cases hf : formBad n xs
      · exact refWrite_form P (rdOf d) l X a n M y xs w hS hr hdd hf hl
      · have := hd.r1; have := hd.r2; have := hd.fits; have := hd.s2
        exact refWrite_rest P (rdOf d) l X a n M y xs w hS hr hM hdd hf hl2 hl3 (by show 0 ≤ d.room - _; omega) (by show d.room - _ ≤ _; omega) hd.s1 (by show d.steps < _; omega) hd.a1 hd.a2 hd.a3
  refine key.mono ?_
  rintro e w' ⟨r', l', X', c, rfl, hS', hb, hcase⟩
  have fin : r' = rdOf (wrD d a n xs) → X'.map RX.s = (wrD d a n xs).secs.map toRS → c = wrE d a n xs → RefSays P (wrD d a n xs) (wrE d a n xs) w (.returned (.tuple #[rdV r' l', .int .i64 c])) w' := fun e1 e2 e3 => by
    subst e1 e3
    exact ⟨_, rfl, ⟨l', X', rfl, hS', e2⟩, hb⟩
  rcases hcase with ⟨h1, h2, h3, h4⟩ | ⟨h1, hf, h2, h3, h4⟩ | ⟨h1, hf, hno, h0, h2, h3, h4⟩ | ⟨h1, hf, hno, h0, h2, ⟨lv, h3⟩, h4⟩ | ⟨h1, hf, ⟨x, hx, xa, xn, h2, ⟨lv, h3⟩⟩, h4⟩
  · have h1' : d.dead = true := h1
    have eD : wrD d a n xs = d := by rw [wrD, if_pos h1']
    refine fin (by rw [eD]; exact h2) (by rw [eD, h3]; exact hX) (by rw [wrE, if_pos h1']; exact h4)
  · have h1' : ¬ d.dead = true := by rw [show d.dead = false from h1]; simp
    have eD : wrD d a n xs = d := by rw [wrD, if_neg h1', if_pos hf]
    refine fin (by rw [eD]; exact h2) (by rw [eD, h3]; exact hX) (by rw [wrE, if_neg h1', if_pos hf]; exact h4)
  · have h1' : ¬ d.dead = true := by rw [show d.dead = false from h1]; simp
    have hn := no_find hX hno
    have hfu : fullBad d a n := ⟨by rw [hn]; rfl, by have : d.room - (d.secs.length : Int) = 0 := h0; omega⟩
    have eD : wrD d a n xs = d := by rw [wrD, if_neg h1', if_neg hf, if_pos hfu]
    refine fin (by rw [eD]; exact h2) (by rw [eD, h3]; exact hX) (by rw [wrE, if_neg h1', if_neg hf, if_pos hfu]; exact h4)
  · have h1' : ¬ d.dead = true := by rw [show d.dead = false from h1]; simp
    have hn := no_find hX hno
    have hfu : ¬ fullBad d a n := fun hh => h0 (by show d.room - (d.secs.length : Int) = 0; have := hh.2; omega)
    have eD : wrD d a n xs = { stepD d with secs := wr a n (pad xs) d.secs } := by rw [wrD, if_neg h1', if_neg hf, if_neg hfu]
    refine fin ?_ ?_ ?_
    · rw [eD, h2, rdStep_with, ← rdOf_step d h1]
      have hw := wr_len (a := a) (n := n) (v := pad xs) hd.sorted
      rw [hn] at hw
      simp only [Option.isSome_none, Bool.false_eq_true, if_false] at hw
      simp only [rdOf, hw, (stepD_secs d).1, (stepD_secs d).2]
      congr 1
      omega
    · rw [eD, h3, putX_map, hX]
      have := putR_wr (a := a) (n := n) (v := pad xs) hd.sorted
      rw [hn] at this
      exact this
    · rw [wrE, if_neg h1', if_neg hf, if_neg hfu, h4]
      exact dies_e d h1
  · have h1' : ¬ d.dead = true := by rw [show d.dead = false from h1]; simp
    obtain ⟨s, hs1, hs2⟩ := is_find hd.sorted hX hx
    rw [xa, xn] at hs1
    have hfu : ¬ fullBad d a n := fun hh => by have := hh.1; rw [hs1] at this; cases this
    have eD : wrD d a n xs = { stepD d with secs := wr a n (pad xs) d.secs } := by rw [wrD, if_neg h1', if_neg hf, if_neg hfu]
    refine fin ?_ ?_ ?_
    · rw [eD, h2, ← rdOf_step d h1]
      have hw := wr_len (a := a) (n := n) (v := pad xs) hd.sorted
      rw [hs1] at hw
      simp only [Option.isSome_some, if_true] at hw
      simp only [rdOf, hw, (stepD_secs d).1]
    · rw [eD, h3, putX_map, hX]
      have := putR_wr (a := a) (n := n) (v := pad xs) hd.sorted
      rw [hs1] at this
      rw [← this, ← hs2]
      simp [wrS, toRS]
    · rw [wrE, if_neg h1', if_neg hf, if_neg hfu, h4]
      exact dies_e d h1
theorem refSync_any (P : Nat → Prop) (N : Nat) (d : DS) (v : Value) (a : Int) (w : World) (h : RefIs P w v d) (hd : DsOk N d) (hN : N < 1099511627776) :
    Calls Try.prog 48 #[v, .int .u64 a] w (RefSays P (syD d a) (stepE d) w) := by
  obtain ⟨l, X, rfl, hS, hX⟩ := h
  have key : Calls Try.prog 48 #[rdV (rdOf d) l, .int .u64 a] w (SySays P (rdOf d) X a w) := by
    cases hdd : d.dead with
    | true => exact refSync_dead P (rdOf d) l X a w hS hdd
    | false => exact refSync_rest P (rdOf d) l X a w hS hdd hd.s1 (by have := hd.s2; show d.steps < _; omega) hd.a1 hd.a2 hd.a3
  refine key.mono ?_
  rintro e w' ⟨r', l', X', c, rfl, hS', hb, hcase⟩
  have fin : r' = rdOf (syD d a) → X'.map RX.s = (syD d a).secs.map toRS → c = stepE d → RefSays P (syD d a) (stepE d) w (.returned (.tuple #[rdV r' l', .int .i64 c])) w' := fun e1 e2 e3 => by
    subst e1 e3
    exact ⟨_, rfl, ⟨l', X', rfl, hS', e2⟩, hb⟩
  rcases hcase with ⟨h1, h2, h3, h4⟩ | ⟨h1, hdi, h2, h3, h4⟩ | ⟨h1, hdi, h2, h3, h4⟩
  · have h1' : d.dead = true := h1
    have eE : stepE d = 30 := by rw [stepE, if_pos h1']
    have eD : syD d a = d := by rw [syD, if_neg (by rw [eE]; decide), stepD, if_pos h1']
    exact fin (by rw [eD]; exact h2) (by rw [eD, h3]; exact hX) (by rw [eE]; exact h4)
  · have hne : stepE d ≠ 0 := by rw [rdDies_eq d h1] at hdi; simpa using hdi
    have eD : syD d a = stepD d := by rw [syD, if_neg hne]
    exact fin (by rw [eD, h2, rdOf_step d h1]) (by rw [eD, h3, (stepD_secs d).1]; exact hX) (by rw [stepE_30 d hne]; exact h4)
  · have hne : stepE d = 0 := by rw [rdDies_eq d h1] at hdi; simpa using hdi
    have eD : syD d a = { stepD d with secs := sy a d.secs } := by rw [syD, if_pos hne]
    refine fin ?_ ?_ (by rw [hne]; exact h4)
    · rw [eD, h2, ← rdOf_step d h1]
      simp [rdOf, sy, (stepD_secs d).1]
    · rw [eD, h3]
      show _ = (sy a d.secs).map toRS
      rw [← sy_map hd.there, ← hX, List.map_map]
      rfl
theorem refFree_any (P : Nat → Prop) (N : Nat) (d : DS) (v : Value) (a : Int) (w : World) (h : RefIs P w v d) (hd : DsOk N d) (hN : N < 1099511627776) :
    Calls Try.prog 49 #[v, .int .u64 a] w (RefSays P (frD d a) (stepE d) w) := by
  obtain ⟨l, X, rfl, hS, hX⟩ := h
  obtain ⟨hl1, _, _⟩ := ref_lens hd hN hX
  have key : Calls Try.prog 49 #[rdV (rdOf d) l, .int .u64 a] w (FrSays P (rdOf d) X a w) := by
    cases hdd : d.dead with
    | true => exact refFree_dead P (rdOf d) l X a w hS hdd
    | false =>
      have := hd.r1; have := hd.r2; have := hd.fits; have := hd.s2
      exact refFree_rest P (rdOf d) l X a w hS hdd hd.s1 (by show d.steps < _; omega) hd.a1 hd.a2 hd.a3 (by show 0 ≤ d.room - _; omega) (by show d.room - _ + _ ≤ _; omega)
  refine key.mono ?_
  rintro e w' ⟨r', l', X', c, rfl, hS', hb, hcase⟩
  have fin : r' = rdOf (frD d a) → X'.map RX.s = (frD d a).secs.map toRS → c = stepE d → RefSays P (frD d a) (stepE d) w (.returned (.tuple #[rdV r' l', .int .i64 c])) w' := fun e1 e2 e3 => by
    subst e1 e3
    exact ⟨_, rfl, ⟨l', X', rfl, hS', e2⟩, hb⟩
  rcases hcase with ⟨h1, h2, h3, h4⟩ | ⟨h1, hdi, h2, h3, h4⟩ | ⟨h1, hdi, h2, h3, h4⟩
  · have h1' : d.dead = true := h1
    have eE : stepE d = 30 := by rw [stepE, if_pos h1']
    have eD : frD d a = d := by rw [frD, if_neg (by rw [eE]; decide), stepD, if_pos h1']
    exact fin (by rw [eD]; exact h2) (by rw [eD, h3]; exact hX) (by rw [eE]; exact h4)
  · have hne : stepE d ≠ 0 := by rw [rdDies_eq d h1] at hdi; simpa using hdi
    have eD : frD d a = stepD d := by rw [frD, if_neg hne]
    exact fin (by rw [eD, h2, rdOf_step d h1]) (by rw [eD, h3, (stepD_secs d).1]; exact hX) (by rw [stepE_30 d hne]; exact h4)
  · have hne : stepE d = 0 := by rw [rdDies_eq d h1] at hdi; simpa using hdi
    have eD : frD d a = { stepD d with secs := fr a d.secs } := by rw [frD, if_pos hne]
    have hcnt : (X.filter fun x => x.s.area = a).length = cnt a d.secs := by
      have e1 : (X.filter fun x => decide (x.s.area = a)).map RX.s = (d.secs.filter fun s => s.area = a).map toRS := by
        have q1 : (X.filter fun x => decide (x.s.area = a)).map RX.s = (X.map RX.s).filter fun s => s.area = a := by rw [List.filter_map]; rfl
        rw [q1, hX, List.filter_map]
        rfl
      have := congrArg List.length e1
      simpa [cnt] using this
    have hfl := fr_len a d.secs
    refine fin ?_ ?_ (by rw [hne]; exact h4)
    · rw [eD, h2, ← rdOf_step d h1, hcnt]
      simp only [rdOf, (stepD_secs d).1, (stepD_secs d).2]
      congr 1
      omega
    · rw [eD, h3]
      show _ = (fr a d.secs).map toRS
      rw [← fr_map, ← hX, List.filter_map]
      rfl
end Go.Proofs.Ytpmmpdkeahmdiaa

/- The reference of the disk: Read, Sectors. -/
namespace Go.Proofs.Ytpmmpdkeahmdiaa
open Go.RowKit
set_option maxRecDepth 100000

attribute [local go_sem ↓] exec_alloc_D exec_box_D exec_load_D exec_store_D
attribute [local go_sem] rdV_cells rdC_0 rdC_1 rdC_2 rdC_3 rdC_4 rdC_5
theorem cur_last (s : Sec) (h : s.last ≠ none ∨ s.fresh ≠ []) : s.cur = some ((toRS s).vs.getLastD []) := by
  unfold Sec.cur toRS
  rw [List.getLastD_eq_getLast?, List.getLast?_append]
  cases hf : s.fresh.getLast? with
  | some v => rfl
  | none =>
    have hn : s.fresh = [] := List.getLast?_eq_none_iff.1 hf
    cases hl : s.last with
    | none => exact absurd hl (h.resolve_right (fun x => x hn))
    | some v => rfl
def readV (o : Option (List Nat)) : Value := match o with | some v => .tuple #[.string (strB v), .bool true] | none => .tuple #[.string (ByteArray.mk #[]), .bool false]
set_option maxHeartbeats 2000000 in
theorem refRead_any (P : Nat → Prop) (N : Nat) (d : DS) (v : Value) (a n : Int) (w : World) (h : RefIs P w v d) (hd : DsOk N d) (hN : N < 1099511627776) :
    Calls Try.prog 32 #[v, .int .u64 a, .int .i64 n] w fun e w' => e = .returned (readV (curOf d.secs a n)) ∧ Below w.heap.size w w' := by
  obtain ⟨l, X, rfl, hS, hX⟩ := h
  obtain ⟨hl1, hl2, hl3⟩ := ref_lens hd hN hX
  obtain ⟨ad, cap, rfl, _⟩ := id hS
  have t1 := DskAt.new w (rdOf d) (.slice ad X.length cap)
  have hld := loadD_at t1
  obtain ⟨w1, hw1⟩ : ∃ w1, w.alloc (.cells (rdC (rdOf d) (.slice ad X.length cap)) 27) = w1 := ⟨_, rfl⟩
  have HW1 : Hid (w.alloc (.cells (rdC (rdOf d) (.slice ad X.length cap)) 27) = w1) := hw1
  rw [hw1] at t1
  have D1 : Hid (DskAt w1 w.heap.size (rdOf d) (.slice ad X.length cap)) := t1
  have B1 : Hid (Below w.heap.size w w1) := hw1 ▸ (Below.refl _ w).alloc (Nat.le_refl _) _
  have hs1 : w1.heap.size = w.heap.size + 1 := by rw [← hw1]; simp
  have HS : Hid (SecRow P w (.slice ad X.length cap) X) := hS
  have HD : Hid (DsOk N d) := hd
  have HX : Hid (X.map RX.s = d.secs.map toRS) := hX
  clear hw1 t1 hS hd hX hl1
  go_enter Try.func32, Try.ntmps32
  go_wp2_with fail
  rw [HW1.out]
  clear hld HW1
  refine (refAt_sec (rdOf d) (.slice ad X.length cap) X a n w1 (HS.out.below B1.out)).mono ?_
  rintro e w2 ⟨⟨k, rfl, hk⟩, hb2⟩
  have hD2 := D1.out.below (by omega) hb2
  have B2 : Hid (Below w.heap.size w w2) := B1.out.trans (hb2.mono (by omega))
  obtain ⟨d0, d1, d2, d3, d4, d5, dz⟩ := hD2.cells
  clear hb2 hD2 d0 d1 d2 d3 d4
  rcases hk with ⟨i, x, rfl, hx, xa, xn⟩ | ⟨rfl, hno⟩
  · have h0' : ¬ ((i : Int) < 0) := by omega
    have hil := (List.getElem?_eq_some_iff.1 hx).1
    obtain ⟨_, _, eX, _, hcs, hok⟩ := id HS.out
    obtain ⟨g, hg0, _, hg, hx4⟩ := hcs (by omega)
    simp only [Value.slice.injEq] at eX
    rw [← eX.1] at hg0
    subst hg0
    obtain ⟨x0, x1, x2, x3⟩ := (hx4 i x hx).below hg B2.out
    have hxm := List.mem_of_getElem? hx
    have HXO : Hid (x.ok P w) := hok x hxm
    obtain ⟨⟨xh, xc, exl, _, _, _⟩, _⟩ := id (hok x hxm)
    rw [exl] at x2
    have HV : Hid (x.val = .agg #[.int .u64 x.s.area, .int .i64 x.s.n, .slice (some ⟨xh, 0, none⟩) x.s.vs.length xc, .bool x.s.sy]) := by show _ = _; unfold RX.val; rw [exl]
    have HC : Hid (curOf d.secs a n = some (x.s.vs.getLastD [])) := by
      obtain ⟨s, h1, h2⟩ := is_find HD.out.sorted HX.out hxm
      rw [xa, xn] at h1
      show _ = _
      rw [curOf, h1, Option.bind_some, cur_last s (HD.out.there s (findS_mem h1)), h2]
    have hin : (i : Int) < (X.length : Int) := by omega
    clear hcs hok hx4 eX hxm xa xn hx exl
    go_wp2_with fail
    rw [← HV.out]
    refine (refLast_rx x w2 (HXO.out.below B2.out)).mono ?_
    obtain ⟨u, hu⟩ : ∃ u, x.s.vs.getLastD [] = u := ⟨_, rfl⟩
    rw [hu] at HC
    rw [hu]
    clear hu
    rintro e w3 ⟨rfl, hb3⟩
    have B3 : Hid (Below w.heap.size w w3) := B2.out.trans (hb3.mono B2.out.size)
    clear hb3 x0 x1 x2 x3
    go_wp2_with fail
    go_ret2
    exact ⟨by rw [HC.out]; rfl, B3.out⟩
  · have HC : Hid (curOf d.secs a n = none) := by
      show _ = _
      rw [curOf, no_find HX.out hno]; rfl
    clear hno
    go_wp2_with fail
    go_ret2
    exact ⟨by rw [HC.out]; rfl, B2.out⟩
/-- One more than the number of the last sector of the area among the first i. -/
def secAt (X : List RX) (a : Int) (i : Nat) : Int := (((X.take i).filter fun x => x.s.area = a).getLast?.map (·.s.n + 1)).getD 0
theorem secAt_succ {X : List RX} {a : Int} {i : Nat} {x : RX} (hx : X[i]? = some x) : secAt X a (i + 1) = if x.s.area = a then x.s.n + 1 else secAt X a i := by
  unfold secAt
  rw [take_snoc hx, List.filter_append]
  by_cases h : x.s.area = a
  · rw [if_pos h]; simp [h]
  · rw [if_neg h]; simp [h]
theorem last_top : ∀ (l : List Int), l.Pairwise (· < ·) → (∀ k ∈ l, 0 ≤ k) → (l.getLast?.map (· + 1)).getD 0 = topS l
  | [], _, _ => rfl
  | [k], _, h => by have := h k (.head _); simp [topS]; omega
  | k :: k2 :: r, hp, h => by
    have ih := last_top (k2 :: r) (List.pairwise_cons.1 hp).2 fun x hx => h x (.tail _ hx)
    have h1 := (List.pairwise_cons.1 hp).1 k2 (.head _)
    have h2 := topS_mem (k2 :: r) k2 (.head _)
    rw [List.getLast?_cons_cons]
    rw [ih]
    show topS (k2 :: r) = max (k + 1) (topS (k2 :: r))
    omega
theorem secAt_all {X : List RX} {d : DS} {a : Int} (hX : X.map RX.s = d.secs.map toRS) (hs : d.secs.Pairwise Sec.before) (ho : SecsOk d.secs) : secAt X a X.length = endS a d.secs := by
  unfold secAt endS
  rw [List.take_length]
  have e1 : (X.filter fun x => decide (x.s.area = a)).map (fun x => x.s.n) = (d.secs.filter fun s => s.area = a).map (·.n) := by
    have q1 : (X.filter fun x => decide (x.s.area = a)).map (fun x => x.s.n) = ((X.map RX.s).filter fun s => s.area = a).map (·.n) := by rw [List.filter_map, List.map_map]; rfl
    rw [q1, hX, List.filter_map, List.map_map]
    rfl
  rw [← e1]
  have e2 : ((X.filter fun x => decide (x.s.area = a)).getLast?.map (fun x => x.s.n + 1)) = ((X.filter fun x => decide (x.s.area = a)).map (fun x => x.s.n)).getLast?.map (· + 1) := by rw [List.getLast?_map, Option.map_map]; rfl
  rw [e2]
  refine last_top _ ?_ ?_
  · rw [e1, List.pairwise_map]
    have hp : (d.secs.filter fun s => decide (s.area = a)).Pairwise Sec.before := hs.filter _
    refine hp.imp_of_mem fun {s t} h1 h2 h3 => ?_
    have a1 : s.area = a := by simpa using (List.mem_filter.1 h1).2
    have a2 : t.area = a := by simpa using (List.mem_filter.1 h2).2
    unfold Sec.before at h3
    omega
  · intro k hk
    rw [e1] at hk
    obtain ⟨s, hs2, rfl⟩ := List.mem_map.1 hk
    exact (ho s (List.mem_filter.1 hs2).1).1
set_option maxHeartbeats 2000000 in
theorem refSectors_any (P : Nat → Prop) (N : Nat) (d : DS) (v : Value) (a : Int) (w : World) (h : RefIs P w v d) (hd : DsOk N d) (hN : N < 1099511627776) (ho : SecsOk d.secs) :
    Calls Try.prog 44 #[v, .int .u64 a] w fun e w' => e = .returned (.int .i64 (endS a d.secs)) ∧ Below w.heap.size w w' := by
  obtain ⟨l, X, rfl, hS, hX⟩ := h
  obtain ⟨hl1, hl2, hl3⟩ := ref_lens hd hN hX
  obtain ⟨ad, cap, rfl, _⟩ := id hS
  have t1 := DskAt.new w (rdOf d) (.slice ad X.length cap)
  obtain ⟨w1, hw1⟩ : ∃ w1, w.alloc (.cells (rdC (rdOf d) (.slice ad X.length cap)) 27) = w1 := ⟨_, rfl⟩
  rw [hw1] at t1
  have B1 : Hid (Below w.heap.size w w1) := hw1 ▸ (Below.refl _ w).alloc (Nat.le_refl _) _
  obtain ⟨d0, d1, d2, d3, d4, d5, dz⟩ := t1.cells
  have HS : Hid (SecRow P w (.slice ad X.length cap) X) := hS
  have HE : Hid (secAt X a X.length = endS a d.secs) := secAt_all hX hd.sorted ho
  have HO : Hid (∀ x ∈ X, 0 ≤ x.s.n ∧ x.s.n < 16777216) := fun x hx => by
    have : x.s ∈ d.secs.map toRS := by rw [← hX]; exact List.mem_map.2 ⟨x, hx, rfl⟩
    obtain ⟨s, hm, e⟩ := List.mem_map.1 this
    rw [← e]
    exact ho s hm
  clear t1 hS hd hX d0 d1 d2 d3 d4 ho hl1
  go_enter Try.func44, Try.ntmps44
  go_wp2_with fail
  try rw [hw1]
  clear hw1
  go_loopw [5, 6] (fun v5 v6 wr => ∃ i : Nat, v5 = .int .i64 (secAt X a i) ∧ v6 = .int .i64 i ∧ i ≤ X.length ∧ wr = w1) (fun _ v6 _ => X.length - (intOf v6).toNat)
  case atStart => exact ⟨0, rfl, rfl, Nat.zero_le _, rfl⟩
  case round =>
    obtain ⟨i, rfl, rfl, hi, rfl⟩ := hrel
    by_cases hin : i < X.length
    · obtain ⟨_, _, eX, _, hcs, hok⟩ := id HS.out
      obtain ⟨g, hg0, _, hg, hx4⟩ := hcs (by omega)
      simp only [Value.slice.injEq] at eX
      rw [← eX.1] at hg0
      subst hg0
      obtain ⟨x, hx⟩ : ∃ x, X[i]? = some x := ⟨_, List.getElem?_eq_getElem hin⟩
      obtain ⟨x0, x1, x2, x3⟩ := (hx4 i x hx).below hg B1.out
      obtain ⟨b1, b2⟩ := HO.out x (List.mem_of_getElem? hx)
      have HN2 : Hid (secAt X a (i + 1) = if x.s.area = a then x.s.n + 1 else secAt X a i) := secAt_succ hx
      clear hcs hok hx4 eX hx x2 x3
      by_cases ea : x.s.area = a
      · have e1 : (x.s.area == a) = true := by simpa using ea
        have EA : Hid (x.s.area = a) := ea
        clear ea
        go_wp2_with fail
        go_roundw
        case rel => exact ⟨i + 1, by rw [HN2.out, if_pos EA.out], by go_num, by omega, (by first | trivial | exact rfl)⟩
        case measure => simp [intOf]; omega
      · have e1 : (x.s.area == a) = false := by simpa using ea
        have EA : Hid (¬ x.s.area = a) := ea
        clear ea
        go_wp2_with fail
        go_roundw
        case rel => exact ⟨i + 1, by rw [HN2.out, if_neg EA.out], by go_num, by omega, (by first | trivial | exact rfl)⟩
        case measure => simp [intOf]; omega
    · have hii : i = X.length := by omega
      subst hii
      go_wp2_with fail
      go_ret
      exact ⟨by rw [HE.out]; rfl, B1.out⟩
end Go.Proofs.Ytpmmpdkeahmdiaa

/- The reference's Do. -/
namespace Go.Proofs.Ytpmmpdkeahmdiaa
open Go.RowKit
set_option maxRecDepth 100000

attribute [local go_sem ↓] exec_alloc_D exec_box_D exec_load_D exec_store_D
attribute [local go_sem] rdV_cells rdC_0 rdC_1 rdC_2 rdC_3 rdC_4 rdC_5
def do3 (w : World) (r : RD) (l : Value) (o : OpC) (b : Value) : World :=
  ((w.alloc (.cells (rdC r l) 27)).alloc (.cells #[.int .i64 o.kind, .int .u64 o.area, .int .i64 o.n, b] 38)).alloc (.cells (rdC rd0 (.slice none 0 0)) 27)
theorem do3_at (w : World) (r : RD) (l : Value) (o : OpC) (b : Value) : DskAt (do3 w r l o b) w.heap.size r l ∧ DskAt (do3 w r l o b) (w.heap.size + 1 + 1) rd0 (.slice none 0 0) ∧ Below w.heap.size w (do3 w r l o b) ∧ (do3 w r l o b).heap.size = w.heap.size + 3 := by
  refine ⟨((DskAt.new w r l).old _).old _, ?_, (((Below.refl _ w).alloc (Nat.le_refl _) _).alloc (by simp) _).alloc (by simp; omega) _, by simp [do3]⟩
  have := DskAt.new ((w.alloc (.cells (rdC r l) 27)).alloc (.cells #[.int .i64 o.kind, .int .u64 o.area, .int .i64 o.n, b] 38)) rd0 (.slice none 0 0)
  rwa [alloc_size, alloc_size] at this
theorem RefIs.form {P : Nat → Prop} {w : World} {v : Value} {d : DS} (h : RefIs P w v d) : ∃ ad n c, v = rdV (rdOf d) (.slice ad n c) := by
  obtain ⟨l, X, rfl, ⟨ad, cap, rfl, _⟩, _⟩ := h
  exact ⟨ad, _, cap, rfl⟩
/-- A result that is stored into a block of the call's own. -/
theorem RefIs.stored {P : Nat → Prop} {w w4 : World} {v : Value} {d : DS} {b B : Nat} {r : RD} {l : Value} (h : RefIs (fun k => (P k ∧ k < w.heap.size) ∨ B ≤ k) w4 v d) (hb : w.heap.size ≤ b) (hB : b < B) : RefIs (fun k => P k ∨ w.heap.size ≤ k) (setD w4 b r l) v d :=
  (h.same (by rw [setD_size]; exact Nat.le_refl _) fun k hk _ => setD_far _ _ _ _ _ (by rcases hk with ⟨_, hk⟩ | hk <;> omega)).mono fun k _ hk => hk.imp (·.1) (fun hk => by omega)
set_option maxHeartbeats 4000000 in
theorem refDo_any (P : Nat → Prop) (N M : Nat) (d : DS) (v : Value) (o : OpC) (b : Value) (w : World) (h : RefIs P w v d) (hd : DsOk N d) (hN : N < 1099511627776) (ho : o.fits) (hr : Row M w b o.xs) (hM : M ≤ w.heap.size) :
    Calls Try.prog 16 #[v, opV o b] w (RefSays P (doD d o) (doE d o) w) := by
  obtain ⟨ad, n, c, rfl⟩ := h.form
  obtain ⟨t1, t2, t3, t4⟩ := do3_at w (rdOf d) (.slice ad n c) o b
  have hld := loadD_at t1
  obtain ⟨w3, hw3⟩ : ∃ w3, do3 w (rdOf d) (.slice ad n c) o b = w3 := ⟨_, rfl⟩
  unfold do3 at hld
  rw [hw3] at t1 t2 t3 t4
  have HW3 : Hid (((w.alloc (.cells (rdC (rdOf d) (.slice ad n c)) 27)).alloc (.cells #[.int .i64 o.kind, .int .u64 o.area, .int .i64 o.n, b] 38)).alloc (.cells (rdC rd0 (.slice none 0 0)) 27) = w3) := hw3
  have T2 : Hid (DskAt w3 (w.heap.size + 1 + 1) rd0 (.slice none 0 0)) := t2
  have T3 : Hid (Below w.heap.size w w3) := t3
  have HD : Hid (DsOk N d) := hd
  have H3 : Hid (RefIs (fun k => P k ∧ k < w.heap.size) w3 (rdV (rdOf d) (.slice ad n c)) d) := (h.mono fun k hk hP => ⟨hP, hk⟩).below t3
  have HR : Hid (Row M w3 b o.xs) := hr.below (t3.mono hM)
  have HL : Hid (o.xs.length ≤ 9223372036854775807) := ho.len
  have hM3 : M ≤ w3.heap.size := by omega
  unfold opV
  clear hw3 t1 t2 t3 h hd hr ho
  obtain ⟨dq, hdq⟩ : ∃ dq, doD d o = dq := ⟨_, rfl⟩
  obtain ⟨cq, hcq⟩ : ∃ cq, doE d o = cq := ⟨_, rfl⟩
  rw [hdq, hcq]
  by_cases k0 : o.kind = 0
  · have eD : wrD d o.area o.n o.xs = dq := by rw [← hdq, doD, if_pos k0]
    have eE : wrE d o.area o.n o.xs = cq := by rw [← hcq, doE, if_pos k0]
    have e0 : (o.kind == 0) = true := by simpa using k0
    have HC : Hid (Calls Try.prog 47 #[rdV (rdOf d) (.slice ad n c), .int .u64 o.area, .int .i64 o.n, b] w3 (RefSays (fun k => P k ∧ k < w.heap.size) dq cq w3)) := by
      rw [← eD, ← eE]
      exact refWrite_any _ N M d _ o.area o.n b o.xs w3 H3.out HD.out hN HR.out hM3 HL.out
    clear hdq hcq eD eE k0
    go_enter Try.func16, Try.ntmps16
    go_wp2_with fail
    rw [HW3.out]
    clear hld
    refine HC.out.mono ?_
    rintro e w4 ⟨v4, rfl, hR4, hb4⟩
    obtain ⟨ad4, n4, c4, rfl⟩ := hR4.form
    have T4 : Hid (DskAt w4 (w.heap.size + 1 + 1) rd0 (.slice none 0 0)) := T2.out.below (by omega) hb4
    have B4 : Hid (Below w.heap.size w w4) := T3.out.trans (hb4.mono (by omega))
    rw [t4] at hR4
    have hst4 := storeD_at (r := rdOf dq) (ad := ad4) (n := n4) (c := c4) T4.out
    have HE : Hid (RefSays P dq cq w (.returned (.tuple #[rdV (rdOf dq) (.slice ad4 n4 c4), .int .i64 cq])) (setD w4 (w.heap.size + 1 + 1) (rdOf dq) (.slice ad4 n4 c4))) :=
      ⟨_, rfl, hR4.stored (by omega) (by omega), setD_below B4.out (by omega) _ _⟩
    have HR : Hid (DskAt (setD w4 (w.heap.size + 1 + 1) (rdOf dq) (.slice ad4 n4 c4)) (w.heap.size + 1 + 1) (rdOf dq) (.slice ad4 n4 c4)) := T4.out.set
    obtain ⟨w5, hw5⟩ : ∃ w5, setD w4 (w.heap.size + 1 + 1) (rdOf dq) (.slice ad4 n4 c4) = w5 := ⟨_, rfl⟩
    rw [hw5] at hst4 HE HR
    clear hw5 hR4 hb4
    go_wp2_with fail
    exact retD2 rfl rfl rfl HR.out rfl HE.out
  have e0 : (o.kind == 0) = false := by simpa using k0
  by_cases k1 : o.kind = 1
  · have eD : syD d o.area = dq := by rw [← hdq, doD, if_neg k0, if_pos k1]
    have eE : stepE d = cq := by rw [← hcq, doE, if_neg k0, if_pos k1]
    have e1 : (o.kind == 1) = true := by simpa using k1
    have HC : Hid (Calls Try.prog 48 #[rdV (rdOf d) (.slice ad n c), .int .u64 o.area] w3 (RefSays (fun k => P k ∧ k < w.heap.size) dq cq w3)) := by
      rw [← eD, ← eE]
      exact refSync_any _ N d _ o.area w3 H3.out HD.out hN
    clear hdq hcq eD eE k0 k1
    go_enter Try.func16, Try.ntmps16
    go_wp2_with fail
    rw [HW3.out]
    clear hld
    refine HC.out.mono ?_
    rintro e w4 ⟨v4, rfl, hR4, hb4⟩
    obtain ⟨ad4, n4, c4, rfl⟩ := hR4.form
    have T4 : Hid (DskAt w4 (w.heap.size + 1 + 1) rd0 (.slice none 0 0)) := T2.out.below (by omega) hb4
    have B4 : Hid (Below w.heap.size w w4) := T3.out.trans (hb4.mono (by omega))
    rw [t4] at hR4
    have hst4 := storeD_at (r := rdOf dq) (ad := ad4) (n := n4) (c := c4) T4.out
    have HE : Hid (RefSays P dq cq w (.returned (.tuple #[rdV (rdOf dq) (.slice ad4 n4 c4), .int .i64 cq])) (setD w4 (w.heap.size + 1 + 1) (rdOf dq) (.slice ad4 n4 c4))) :=
      ⟨_, rfl, hR4.stored (by omega) (by omega), setD_below B4.out (by omega) _ _⟩
    have HR : Hid (DskAt (setD w4 (w.heap.size + 1 + 1) (rdOf dq) (.slice ad4 n4 c4)) (w.heap.size + 1 + 1) (rdOf dq) (.slice ad4 n4 c4)) := T4.out.set
    obtain ⟨w5, hw5⟩ : ∃ w5, setD w4 (w.heap.size + 1 + 1) (rdOf dq) (.slice ad4 n4 c4) = w5 := ⟨_, rfl⟩
    rw [hw5] at hst4 HE HR
    clear hw5 hR4 hb4
    go_wp2_with fail
    exact retD2 rfl rfl rfl HR.out rfl HE.out
  have e1 : (o.kind == 1) = false := by simpa using k1
  by_cases k2 : o.kind = 2
  · have eD : frD d o.area = dq := by rw [← hdq, doD, if_neg k0, if_neg k1, if_pos k2]
    have eE : stepE d = cq := by rw [← hcq, doE, if_neg k0, if_neg k1, if_pos k2]
    have e2 : (o.kind == 2) = true := by simpa using k2
    have HC : Hid (Calls Try.prog 49 #[rdV (rdOf d) (.slice ad n c), .int .u64 o.area] w3 (RefSays (fun k => P k ∧ k < w.heap.size) dq cq w3)) := by
      rw [← eD, ← eE]
      exact refFree_any _ N d _ o.area w3 H3.out HD.out hN
    clear hdq hcq eD eE k0 k1 k2
    go_enter Try.func16, Try.ntmps16
    go_wp2_with fail
    rw [HW3.out]
    clear hld
    refine HC.out.mono ?_
    rintro e w4 ⟨v4, rfl, hR4, hb4⟩
    obtain ⟨ad4, n4, c4, rfl⟩ := hR4.form
    have T4 : Hid (DskAt w4 (w.heap.size + 1 + 1) rd0 (.slice none 0 0)) := T2.out.below (by omega) hb4
    have B4 : Hid (Below w.heap.size w w4) := T3.out.trans (hb4.mono (by omega))
    rw [t4] at hR4
    have hst4 := storeD_at (r := rdOf dq) (ad := ad4) (n := n4) (c := c4) T4.out
    have HE : Hid (RefSays P dq cq w (.returned (.tuple #[rdV (rdOf dq) (.slice ad4 n4 c4), .int .i64 cq])) (setD w4 (w.heap.size + 1 + 1) (rdOf dq) (.slice ad4 n4 c4))) :=
      ⟨_, rfl, hR4.stored (by omega) (by omega), setD_below B4.out (by omega) _ _⟩
    have HR : Hid (DskAt (setD w4 (w.heap.size + 1 + 1) (rdOf dq) (.slice ad4 n4 c4)) (w.heap.size + 1 + 1) (rdOf dq) (.slice ad4 n4 c4)) := T4.out.set
    obtain ⟨w5, hw5⟩ : ∃ w5, setD w4 (w.heap.size + 1 + 1) (rdOf dq) (.slice ad4 n4 c4) = w5 := ⟨_, rfl⟩
    rw [hw5] at hst4 HE HR
    clear hw5 hR4 hb4
    go_wp2_with fail
    exact retD2 rfl rfl rfl HR.out rfl HE.out
  have e2 : (o.kind == 2) = false := by simpa using k2
  have eE : cq = 0 := by rw [← hcq, doE, if_neg k0, if_neg k1, if_neg k2]
  by_cases k3 : o.kind = 3
  · have eD : armD d o.n = dq := by rw [← hdq, doD, if_neg k0, if_neg k1, if_neg k2, if_pos k3]
    have e3 : (o.kind == 3) = true := by simpa using k3
    have HA : Hid (rdArm (rdOf d) o.n = rdOf dq ∧ dq.secs = d.secs) := ⟨by rw [← eD, rdOf_arm], by rw [← eD]; unfold armD; split <;> rfl⟩
    clear hdq hcq eD k0 k1 k2 k3
    subst eE
    go_enter Try.func16, Try.ntmps16
    go_wp2_with fail
    rw [HW3.out]
    clear hld
    refine (refArm_any (rdOf d) ad n c o.n w3).mono ?_
    rintro e w4 ⟨rfl, hb4⟩
    rw [HA.out.1]
    have hR4 : RefIs (fun k => (P k ∧ k < w.heap.size) ∨ w3.heap.size ≤ k) w4 (rdV (rdOf dq) (.slice ad n c)) dq := by
      obtain ⟨l, X, e, hS, hX⟩ := H3.out
      have el : l = .slice ad n c := by
        have := congrArg (fun v => match v with | .agg a => a[5]? | _ => none) e
        simpa [rdV] using this.symm
      subst el
      exact ⟨_, X, rfl, (hS.below hb4).mono fun k _ h => .inl h, by rw [HA.out.2]; exact hX⟩
    have T4 : Hid (DskAt w4 (w.heap.size + 1 + 1) rd0 (.slice none 0 0)) := T2.out.below (by omega) hb4
    have B4 : Hid (Below w.heap.size w w4) := T3.out.trans (hb4.mono (by omega))
    rw [t4] at hR4
    have hst4 := storeD_at (r := rdOf dq) (ad := ad) (n := n) (c := c) T4.out
    have HE : Hid (RefSays P dq 0 w (.returned (.tuple #[rdV (rdOf dq) (.slice ad n c), .int .i64 0])) (setD w4 (w.heap.size + 1 + 1) (rdOf dq) (.slice ad n c))) :=
      ⟨_, rfl, hR4.stored (by omega) (by omega), setD_below B4.out (by omega) _ _⟩
    have HR : Hid (DskAt (setD w4 (w.heap.size + 1 + 1) (rdOf dq) (.slice ad n c)) (w.heap.size + 1 + 1) (rdOf dq) (.slice ad n c)) := T4.out.set
    obtain ⟨w5, hw5⟩ : ∃ w5, setD w4 (w.heap.size + 1 + 1) (rdOf dq) (.slice ad n c) = w5 := ⟨_, rfl⟩
    rw [hw5] at hst4 HE HR
    clear hw5 hR4 hb4
    go_wp2_with fail
    exact retD2 rfl rfl rfl HR.out rfl HE.out
  · have eD : dq = d := by rw [← hdq, doD, if_neg k0, if_neg k1, if_neg k2, if_neg k3]
    have e3 : (o.kind == 3) = false := by simpa using k3
    clear hdq hcq k0 k1 k2 k3
    subst eE eD
    have hst4 := storeD_at (r := rdOf dq) (ad := ad) (n := n) (c := c) T2.out
    have hR4 : RefIs (fun k => (P k ∧ k < w.heap.size) ∨ w3.heap.size ≤ k) w3 (rdV (rdOf dq) (.slice ad n c)) dq := H3.out.mono fun k _ h => .inl h
    rw [t4] at hR4
    have HE : Hid (RefSays P dq 0 w (.returned (.tuple #[rdV (rdOf dq) (.slice ad n c), .int .i64 0])) (setD w3 (w.heap.size + 1 + 1) (rdOf dq) (.slice ad n c))) :=
      ⟨_, rfl, hR4.stored (by omega) (by omega), setD_below T3.out (by omega) _ _⟩
    have HR : Hid (DskAt (setD w3 (w.heap.size + 1 + 1) (rdOf dq) (.slice ad n c)) (w.heap.size + 1 + 1) (rdOf dq) (.slice ad n c)) := T2.out.set
    obtain ⟨w5, hw5⟩ : ∃ w5, setD w3 (w.heap.size + 1 + 1) (rdOf dq) (.slice ad n c) = w5 := ⟨_, rfl⟩
    rw [hw5] at hst4 HE HR
    rw [← HW3.out] at hst4
    clear hw5 hR4 HW3
    go_enter Try.func16, Try.ntmps16
    go_wp2_with fail
    exact retD2 rfl rfl rfl HR.out rfl HE.out
end Go.Proofs.Ytpmmpdkeahmdiaa
