/- The reference of the disk: Free. -/
import Derived.Test.YtpmmpdkeahmdiaaRefWrite
namespace Go.Proofs.Ytpmmpdkeahmdiaa
open Go.RowKit
set_option maxRecDepth 100000

attribute [local go_sem ↓] exec_alloc_D exec_box_D exec_load_D exec_store_D
attribute [local go_sem] rdV_cells rdC_0 rdC_1 rdC_2 rdC_3 rdC_4 rdC_5
def FrSays (P : Nat → Prop) (r : RD) (X : List RX) (a : Int) (w : World) (e : Ending) (w' : World) : Prop :=
  ∃ r' l' X' c, e = .returned (.tuple #[rdV r' l', .int .i64 c]) ∧ SecRow (fun b => P b ∨ w.heap.size ≤ b) w' l' X' ∧ Below w.heap.size w w' ∧
    ((r.dead = true ∧ r' = r ∧ X' = X ∧ c = 30) ∨ (r.dead = false ∧ rdDies r = true ∧ r' = rdStep r ∧ X' = X ∧ c = 30) ∨ (r.dead = false ∧ rdDies r = false ∧ r' = { rdStep r with room := (rdStep r).room + ((X.filter fun x => x.s.area = a).length : Int) } ∧ X' = (X.filter fun x => x.s.area ≠ a) ∧ c = 0))
set_option maxHeartbeats 2000000 in
theorem refFree_dead (P : Nat → Prop) (r : RD) (l : Value) (X : List RX) (a : Int) (w : World) (hX : SecRow P w l X) (hd : r.dead = true) :
    Calls Try.prog 49 #[rdV r l, .int .u64 a] w (FrSays P r X a w) := by
  obtain ⟨ad, cap, rfl, _⟩ := id hX
  obtain ⟨t1, t2, t3, t4⟩ := two0_at w r (.slice ad X.length cap)
  have hld := loadD_at t1
  have hst := storeD_at (r := r) (ad := ad) (n := X.length) (c := cap) t2
  have HE : Hid (FrSays P r X a w (.returned (.tuple #[rdV r (.slice ad X.length cap), .int .i64 30])) (setD (two0 w r (.slice ad X.length cap)) (w.heap.size + 1) r (.slice ad X.length cap))) := by
    have hb := setD_below t3 (b := w.heap.size + 1) (by omega) r (.slice ad X.length cap)
    exact ⟨r, .slice ad X.length cap, X, 30, rfl, (hX.below hb).mono fun b _ h => .inl h, hb, .inl ⟨hd, rfl, rfl, rfl⟩⟩
  have HR : Hid (DskAt (setD (two0 w r (.slice ad X.length cap)) (w.heap.size + 1) r (.slice ad X.length cap)) (w.heap.size + 1) r (.slice ad X.length cap)) := t2.set
  clear hX t1 t2 t3 t4
  obtain ⟨w5, hw5⟩ : ∃ w5, setD (two0 w r (.slice ad X.length cap)) (w.heap.size + 1) r (.slice ad X.length cap) = w5 := ⟨_, rfl⟩
  rw [hw5] at hst HE HR
  clear hw5
  unfold two0 at hld hst
  go_enter Try.func49, Try.ntmps49
  go_wp2
  exact retD2 rfl rfl rfl HR.out rfl HE.out
theorem rdStep_room (r : RD) : (rdStep r).room = r.room := by unfold rdStep; split <;> (try split) <;> rfl
structure FreeR (w : World) (r4 : RD) (ad : Option Addr) (cap : Nat) (a : Int) (X : List RX) (v7 v8 : Value) (wr : World) (i : Nat) (acc : List RX) : Prop where
  e8 : v8 = .int .i64 i
  hi : i ≤ X.length
  own : SecOwn (w.heap.size + 2) wr v7 acc
  eq : acc = (X.take i).filter fun x => x.s.area ≠ a
  dk : DskAt wr w.heap.size { r4 with room := r4.room + (((X.take i).filter fun x => x.s.area = a).length : Int) } (.slice ad X.length cap)
  rk : DskAt wr (w.heap.size + 1) rd0 (.slice none 0 0)
  below : Below w.heap.size w wr
theorem FreeR.len {w : World} {r4 : RD} {ad : Option Addr} {cap : Nat} {a : Int} {X : List RX} {v7 v8 : Value} {wr : World} {i : Nat} {acc : List RX} (h : FreeR w r4 ad cap a X v7 v8 wr i acc) : acc.length ≤ i := by
  rw [h.eq]
  exact Nat.le_trans (List.length_filter_le _ _) (List.length_take_le i X)
theorem take_snoc {X : List RX} {i : Nat} {x : RX} (hx : X[i]? = some x) : X.take (i + 1) = X.take i ++ [x] := by rw [List.take_add_one, hx]; rfl
theorem FreeR.skip {w : World} {r4 : RD} {ad : Option Addr} {cap : Nat} {a : Int} {X : List RX} {v7 v8 : Value} {wr : World} {i k : Nat} {acc : List RX} {x : RX} (h : FreeR w r4 ad cap a X v7 v8 wr i acc) (hx : X[i]? = some x) (ea : x.s.area = a) (hk : ((X.take i).filter fun x => x.s.area = a).length = k) (hD : DskAt wr w.heap.size { r4 with room := r4.room + (k : Int) } (.slice ad X.length cap)) :
    ∃ i' acc', FreeR w r4 ad cap a X v7 (.int .i64 ((i : Int) + 1)) (wr.setCell ⟨w.heap.size, 0, none⟩ (.int .i64 (r4.room + (k : Int) + 1))) i' acc' := by
  have hin := (List.getElem?_eq_some_iff.1 hx).1
  have e1 : (X.take (i + 1)).filter (fun x => decide (x.s.area ≠ a)) = (X.take i).filter fun x => x.s.area ≠ a := by rw [take_snoc hx, List.filter_append]; simp [ea]
  have e2 : ((X.take (i + 1)).filter fun x => x.s.area = a).length = k + 1 := by rw [take_snoc hx, List.filter_append, List.length_append, hk]; simp [ea]
  refine ⟨i + 1, acc, rfl, hin, ?_, by rw [e1]; exact h.eq, ?_, ?_, h.below.setCell (Nat.le_refl _) _⟩
  · obtain ⟨g1, g2 | ⟨g, gc, cur, e, k1, k2, k3⟩⟩ := h.own
    · exact ⟨g1, .inl g2⟩
    · exact ⟨g1, .inr ⟨g, gc, cur, e, k1, (Below.heap_setCell _ _ _ _ (by show g ≠ w.heap.size; omega)).trans k2, k3⟩⟩
  · rw [e2]
    have := set_cell hD 0 (.int .i64 (r4.room + (k : Int) + 1))
    have e3 : r4.room + ((k + 1 : Nat) : Int) = r4.room + (k : Int) + 1 := by omega
    rw [e3]
    exact this
  · exact (Below.heap_setCell _ _ _ _ (by show w.heap.size + 1 ≠ w.heap.size; omega)).trans h.rk
theorem FreeR.keep {w : World} {r4 : RD} {ad : Option Addr} {cap : Nat} {a : Int} {X : List RX} {v7 v8 v7' : Value} {wr wr' : World} {i : Nat} {acc : List RX} {x : RX} (h : FreeR w r4 ad cap a X v7 v8 wr i acc) (hx : X[i]? = some x) (ea : x.s.area ≠ a) (hown : SecOwn (w.heap.size + 2) wr' v7' (acc ++ [x])) (hb : Below (w.heap.size + 2) wr wr') :
    ∃ i' acc', FreeR w r4 ad cap a X v7' (.int .i64 ((i : Int) + 1)) wr' i' acc' := by
  have hin := (List.getElem?_eq_some_iff.1 hx).1
  have e1 : (X.take (i + 1)).filter (fun x => decide (x.s.area ≠ a)) = ((X.take i).filter fun x => x.s.area ≠ a) ++ [x] := by rw [take_snoc hx, List.filter_append]; simp [ea]
  have e2 : ((X.take (i + 1)).filter fun x => x.s.area = a) = (X.take i).filter fun x => x.s.area = a := by rw [take_snoc hx, List.filter_append]; simp [ea]
  refine ⟨i + 1, acc ++ [x], rfl, hin, hown, by rw [e1, ← h.eq], ?_, h.rk.below (by omega) hb, h.below.trans (hb.mono (by omega))⟩
  rw [e2]
  exact h.dk.below (by omega) hb
set_option maxHeartbeats 2000000 in
theorem refFree_rest (P : Nat → Prop) (r : RD) (l : Value) (X : List RX) (a : Int) (w : World) (hX : SecRow P w l X) (hd : r.dead = false) (h1 : 0 ≤ r.steps) (h2 : r.steps < 4611686018427387904) (h3 : -9223372036854775808 ≤ r.left) (h4 : r.left ≤ 9223372036854775807) (h5 : r.armed = true → 0 ≤ r.left) (hr1 : 0 ≤ r.room) (hr2 : r.room + (X.length : Int) ≤ 9223372036854775807) :
    Calls Try.prog 49 #[rdV r l, .int .u64 a] w (FrSays P r X a w) := by
  obtain ⟨ad, cap, rfl, hlX, _⟩ := id hX
  have HX : Hid (SecRow P w (.slice ad X.length cap) X) := hX
  obtain ⟨t1, t2, t3, t4⟩ := two0_at w r (.slice ad X.length cap)
  have hld := loadD_at t1
  obtain ⟨w2, hw2⟩ : ∃ w2, two0 w r (.slice ad X.length cap) = w2 := ⟨_, rfl⟩
  have HW2 : Hid ((w.alloc (.cells (rdC r (.slice ad X.length cap)) 27)).alloc (.cells (rdC rd0 (.slice none 0 0)) 27) = w2) := hw2
  unfold two0 at hld
  rw [hw2] at t1 t2 t3 t4
  have T1 : Hid (DskAt w2 w.heap.size r (.slice ad X.length cap)) := t1
  have T2 : Hid (DskAt w2 (w.heap.size + 1) rd0 (.slice none 0 0)) := t2
  have T3 : Hid (Below w.heap.size w w2) := t3
  clear hX hw2 t1 t2 t3
  go_enter Try.func49, Try.ntmps49
  go_wp2_with fail
  rw [HW2.out]
  clear hld HW2
  refine (refStep_any r ad X.length cap w2 h1 h2 h3 h4 h5).mono ?_
  rintro e w3 ⟨rfl, hb3⟩
  have hD3 := T1.out.below (by omega) hb3
  have D3 : Hid (DskAt w3 w.heap.size r (.slice ad X.length cap)) := hD3
  have R3 : Hid (DskAt w3 (w.heap.size + 1) rd0 (.slice none 0 0)) := T2.out.below (by omega) hb3
  have B3 : Hid (Below w.heap.size w w3) := T3.out.trans (hb3.mono (by omega))
  obtain ⟨r4, hr4⟩ : ∃ r4, rdStep r = r4 := ⟨_, rfl⟩
  have hrm : r4.room = r.room := by rw [← hr4, rdStep_room]
  rw [← hrm] at hr1 hr2
  clear hrm
  rw [hr4]
  have hst3 := storeD_at (r := r4) (ad := ad) (n := X.length) (c := cap) hD3
  obtain ⟨w4, hw4⟩ : ∃ w4, setD w3 w.heap.size r4 (.slice ad X.length cap) = w4 := ⟨_, rfl⟩
  rw [hw4] at hst3
  have D4 : Hid (DskAt w4 w.heap.size r4 (.slice ad X.length cap)) := hw4 ▸ hD3.set
  have R4 : Hid (DskAt w4 (w.heap.size + 1) rd0 (.slice none 0 0)) := hw4 ▸ R3.out.far (by omega)
  have B4 : Hid (Below w.heap.size w w4) := hw4 ▸ setD_below B3.out (Nat.le_refl _) _ _
  have hld4 := loadD_at D4.out
  have hs4 := R4.out.lt
  clear hb3 hD3 hw4 T1 T2 T3 t4 D3 R3 B3
  obtain ⟨dies, hdies⟩ : ∃ b, rdDies r = b := ⟨_, rfl⟩
  have HDI : Hid (rdDies r = dies) := hdies
  rw [hdies]
  clear hdies
  have HR4 : Hid (rdStep r = r4) := hr4
  clear hr4
  cases dies with
  | true =>
    have hst5 := storeD_at (r := r4) (ad := ad) (n := X.length) (c := cap) R4.out
    have HE : Hid (FrSays P r X a w (.returned (.tuple #[rdV r4 (.slice ad X.length cap), .int .i64 30])) (setD w4 (w.heap.size + 1) r4 (.slice ad X.length cap))) := by
      have hb := setD_below B4.out (b := w.heap.size + 1) (by omega) r4 (.slice ad X.length cap)
      exact ⟨r4, .slice ad X.length cap, X, 30, rfl, (HX.out.below hb).mono fun b _ h => .inl h, hb, .inr (.inl ⟨hd, HDI.out, HR4.out.symm, rfl, rfl⟩)⟩
    have HR : Hid (DskAt (setD w4 (w.heap.size + 1) r4 (.slice ad X.length cap)) (w.heap.size + 1) r4 (.slice ad X.length cap)) := R4.out.set
    obtain ⟨w5, hw5⟩ : ∃ w5, setD w4 (w.heap.size + 1) r4 (.slice ad X.length cap) = w5 := ⟨_, rfl⟩
    rw [hw5] at hst5 HE HR
    clear hw5
    go_wp2_with fail
    exact retD2 rfl rfl rfl HR.out rfl HE.out
  | false =>
    go_wp2_with fail
    clear hst3 hld4
    go_loopw [7, 8] (fun v7 v8 wr => ∃ i acc, FreeR w r4 ad cap a X v7 v8 wr i acc) (fun _ v8 _ => X.length - (intOf v8).toNat)
    case atStart => exact ⟨0, [], rfl, Nat.zero_le _, SecOwn.nil _ _, rfl, by simpa using D4.out, R4.out, B4.out⟩
    case round =>
      obtain ⟨i, acc, hI⟩ := hrel
      have HI : Hid (FreeR w r4 ad cap a X _ _ wr i acc) := hI
      have hal : acc.length ≤ i := hI.len
      obtain ⟨rfl, hi, hown, heq, hD5, hR5, hbw⟩ := hI
      have hsr := hR5.lt
      have hcn : (((X.take i).filter fun x => x.s.area = a).length : Int) ≤ i := by
        have h1 := List.length_filter_le (fun x : RX => decide (x.s.area = a)) (X.take i)
        have h2 := List.length_take_le i X
        omega
      obtain ⟨k, hk⟩ : ∃ k : Nat, ((X.take i).filter fun x => x.s.area = a).length = k := ⟨_, rfl⟩
      have HK : Hid (((X.take i).filter fun x => x.s.area = a).length = k) := hk
      rw [hk] at hcn hD5
      have D5 : Hid (DskAt wr w.heap.size { r4 with room := r4.room + (k : Int) } (.slice ad X.length cap)) := hD5
      have R5 : Hid (DskAt wr (w.heap.size + 1) rd0 (.slice none 0 0)) := hR5
      have B5 : Hid (Below w.heap.size w wr) := hbw
      obtain ⟨d0, d1, d2, d3, d4, d5, dz⟩ := hD5.cells
      obtain ⟨av, ac, rfl⟩ := hown.shape
      clear hown heq hbw hD5 hR5 hk d1 d2 d3 d4
      have n1 : w.heap.size < wr.heap.size := by omega
      have n2 : w.heap.size + 1 < wr.heap.size := by omega
      by_cases hin : i < X.length
      · obtain ⟨_, _, eX, _, hcs, hokX⟩ := id HX.out
        obtain ⟨g, hg0, _, hg, hx4⟩ := hcs (by omega)
        simp only [Value.slice.injEq] at eX
        rw [← eX.1] at hg0
        subst hg0
        obtain ⟨x, hx⟩ : ∃ x, X[i]? = some x := ⟨_, List.getElem?_eq_getElem hin⟩
        obtain ⟨x0, x1, x2, x3⟩ := (hx4 i x hx).below hg B5.out
        have hxok := hokX x (List.mem_of_getElem? hx)
        have HXO : Hid (x.ok P w) := hxok
        obtain ⟨⟨xh, xc, exl, _, _, _⟩, _⟩ := id hxok
        have HM : Hid (X[i]? = some x) := hx
        rw [exl] at x2
        clear hcs hokX eX hx4 hx hxok
        by_cases ea : x.s.area = a
        · have e1 : (x.s.area != a) = false := by simp [ea]
          have EA : Hid (x.s.area = a) := ea
          have hb0 : -9223372036854775808 ≤ r4.room + (k : Int) + 1 := by omega
          have hb1 : r4.room + (k : Int) + 1 ≤ 9223372036854775807 := by omega
          clear ea
          go_wp2_with fail
          go_roundw
          case rel => exact HI.out.skip HM.out EA.out HK.out D5.out
          case measure => simp [intOf]; omega
        · have e1 : (x.s.area != a) = true := by simpa using ea
          have EA : Hid (x.s.area ≠ a) := ea
          clear ea
          go_wp2_with (at_builtin; refine append_sec rfl _ _ rfl (w.heap.size + 2) _ acc x rfl (HI.out.own.alloc _) _ _ rfl (four_new _ _ _ _ _ (by simp) exl) w HXO.out (by omega) (by simp; omega) ?_; intro v' w' ho' hb' hk'; obtain ⟨bv2, bc2, rfl⟩ := ho'.shape; have HO : Hid (SecOwn (w.heap.size + 2) w' (.slice bv2 (acc ++ [x]).length bc2) (acc ++ [x])) := ho'; have HB : Hid (Below (w.heap.size + 2) wr w') := ((Below.refl _ wr).alloc (by omega) _).trans hb'; clear hk' ho' hb')
          go_roundw
          case rel => exact HI.out.keep HM.out EA.out (by simpa using HO.out) HB.out
          case measure => simp [intOf]; omega
      · have hxn : ¬ ((i : Int) < (X.length : Int)) := by omega
        have hii : i = X.length := by omega
        have hb6 : Below w.heap.size w (wr.setCell ⟨w.heap.size, 5, none⟩ (.slice av acc.length ac)) := B5.out.setCell (Nat.le_refl _) _
        obtain ⟨rq, hrq⟩ : ∃ rq : RD, rq = { r4 with room := r4.room + (k : Int) } := ⟨_, rfl⟩
        have D6 : DskAt (wr.setCell ⟨w.heap.size, 5, none⟩ (.slice av acc.length ac)) w.heap.size rq (.slice av acc.length ac) := by rw [hrq]; exact set_cell D5.out 5 _
        have R6 : DskAt (wr.setCell ⟨w.heap.size, 5, none⟩ (.slice av acc.length ac)) (w.heap.size + 1) rd0 (.slice none 0 0) := (Below.heap_setCell _ _ _ _ (by show w.heap.size + 1 ≠ w.heap.size; omega)).trans R5.out
        have hld6 := loadD_at D6
        have hst6 := storeD_at (r := rq) (ad := av) (n := acc.length) (c := ac) R6
        obtain ⟨w7, hw7⟩ : ∃ w7, setD (wr.setCell ⟨w.heap.size, 5, none⟩ (.slice av acc.length ac)) (w.heap.size + 1) rq (.slice av acc.length ac) = w7 := ⟨_, rfl⟩
        rw [hw7] at hst6
        have R7 : Hid (DskAt w7 (w.heap.size + 1) rq (.slice av acc.length ac)) := hw7 ▸ R6.set
        have B7 : Hid (Below w.heap.size w w7) := hw7 ▸ setD_below hb6 (by omega) _ _
        have F7 : Hid (∀ k, w.heap.size + 2 ≤ k → w7.heap[k]? = wr.heap[k]?) := fun k hk => by
          rw [← hw7, setD_far _ _ _ _ _ (by omega)]
          exact Below.heap_setCell _ _ _ _ (by show k ≠ w.heap.size; omega)
        have HRQ : Hid (rq = { r4 with room := r4.room + (k : Int) }) := hrq
        clear hw7 D6 R6 hb6 hrq
        go_wp2_with fail
        refine retD2 rfl rfl rfl R7.out rfl ?_
        have hacc : acc = X.filter fun x => x.s.area ≠ a := by rw [HI.out.eq, hii, List.take_length]
        refine ⟨rq, .slice av acc.length ac, acc, 0, rfl, ?_, B7.out, .inr (.inr ⟨hd, HDI.out, ?_, hacc, rfl⟩)⟩
        · refine SecOwn.row (B := w.heap.size + 2) ?_ (by omega) (fun b hb => .inr (by omega)) (fun x hx => ?_)
          · obtain ⟨g1, g2 | ⟨g, gc, cur, e, k1, k2, k3⟩⟩ := HI.out.own
            · exact ⟨g1, .inl g2⟩
            · exact ⟨g1, .inr ⟨g, gc, cur, e, k1, (F7.out g k1).trans k2, k3⟩⟩
          · obtain ⟨_, _, _, _, _, hokX⟩ := HX.out
            rw [hacc] at hx
            exact ((hokX x (List.mem_filter.1 hx).1).below B7.out).mono fun b _ h => .inl h
        · rw [HRQ.out, HR4.out, ← HK.out, hii, List.take_length]
end Go.Proofs.Ytpmmpdkeahmdiaa
