/- The reference of the disk: Read, Sectors. -/
import Derived.Test.YthdclljacdcolaaRefDo
import Derived.Test.YthdclljacdcolaaSectors
namespace Go.Proofs.Ythdclljacdcolaa
open Go.RowKit
set_option maxRecDepth 100000

attribute [local go_sem ↓] exec_alloc_D exec_box_D exec_load_D exec_store_D
attribute [local go_sem] rdV_cells rdC_0 rdC_1 rdC_2 rdC_3 rdC_4 rdC_5
theorem cur_last (s : Sec) (h : s.last ≠ none ∨ s.fresh ≠ []) : s.cur = some ((toRS s).vs.getLastD []) := by
  unfold Sec.cur toRS
  rw [List.getLastD_eq_getLast?, List.getLast?_append]
  cases hf : s.fresh.getLast? with
  | some v => rfl
  | none =>
    have hn : s.fresh = [] := List.getLast?_eq_none_iff.1 hf
    cases hl : s.last with
    | none => exact absurd hl (h.resolve_right (fun x => x hn))
    | some v => rfl
def readV (o : Option (List Nat)) : Value := match o with | some v => .tuple #[.string (strB v), .bool true] | none => .tuple #[.string (ByteArray.mk #[]), .bool false]
set_option maxHeartbeats 2000000 in
theorem refRead_any (P : Nat → Prop) (N : Nat) (d : DS) (v : Value) (a n : Int) (w : World) (h : RefIs P w v d) (hd : DsOk N d) (hN : N < 1099511627776) :
    Calls Try.prog 30 #[v, .int .u64 a, .int .i64 n] w fun e w' => e = .returned (readV (curOf d.secs a n)) ∧ Below w.heap.size w w' := by
  obtain ⟨l, X, rfl, hS, hX⟩ := h
  obtain ⟨hl1, hl2, hl3⟩ := ref_lens hd hN hX
  obtain ⟨ad, cap, rfl, _⟩ := id hS
  have t1 := DskAt.new w (rdOf d) (.slice ad X.length cap)
  have hld := loadD_at t1
  obtain ⟨w1, hw1⟩ : ∃ w1, w.alloc (.cells (rdC (rdOf d) (.slice ad X.length cap)) 27) = w1 := ⟨_, rfl⟩
  have HW1 : Hid (w.alloc (.cells (rdC (rdOf d) (.slice ad X.length cap)) 27) = w1) := hw1
  rw [hw1] at t1
  have D1 : Hid (DskAt w1 w.heap.size (rdOf d) (.slice ad X.length cap)) := t1
  have B1 : Hid (Below w.heap.size w w1) := hw1 ▸ (Below.refl _ w).alloc (Nat.le_refl _) _
  have hs1 : w1.heap.size = w.heap.size + 1 := by rw [← hw1]; simp
  have HS : Hid (SecRow P w (.slice ad X.length cap) X) := hS
  have HD : Hid (DsOk N d) := hd
  have HX : Hid (X.map RX.s = d.secs.map toRS) := hX
  clear hw1 t1 hS hd hX hl1
  go_enter Try.func30, Try.ntmps30
  go_wp2_with fail
  rw [HW1.out]
  clear hld HW1
  refine (refAt_sec (rdOf d) (.slice ad X.length cap) X a n w1 (HS.out.below B1.out)).mono ?_
  rintro e w2 ⟨⟨k, rfl, hk⟩, hb2⟩
  have hD2 := D1.out.below (by omega) hb2
  have B2 : Hid (Below w.heap.size w w2) := B1.out.trans (hb2.mono (by omega))
  obtain ⟨d0, d1, d2, d3, d4, d5, dz⟩ := hD2.cells
  clear hb2 hD2 d0 d1 d2 d3 d4
  rcases hk with ⟨i, x, rfl, hx, xa, xn⟩ | ⟨rfl, hno⟩
  · have h0' : ¬ ((i : Int) < 0) := by omega
    have hil := (List.getElem?_eq_some_iff.1 hx).1
    obtain ⟨_, _, eX, _, hcs, hok⟩ := id HS.out
    obtain ⟨g, hg0, _, hg, hx4⟩ := hcs (by omega)
    simp only [Value.slice.injEq] at eX
    rw [← eX.1] at hg0
    subst hg0
    obtain ⟨x0, x1, x2, x3⟩ := (hx4 i x hx).below hg B2.out
    have hxm := List.mem_of_getElem? hx
    have HXO : Hid (x.ok P w) := hok x hxm
    obtain ⟨⟨xh, xc, exl, _, _, _⟩, _⟩ := id (hok x hxm)
    rw [exl] at x2
    have HV : Hid (x.val = .agg #[.int .u64 x.s.area, .int .i64 x.s.n, .slice (some ⟨xh, 0, none⟩) x.s.vs.length xc, .bool x.s.sy]) := by show _ = _; unfold RX.val; rw [exl]
    have HC : Hid (curOf d.secs a n = some (x.s.vs.getLastD [])) := by
      obtain ⟨s, h1, h2⟩ := is_find HD.out.sorted HX.out hxm
      rw [xa, xn] at h1
      show _ = _
      rw [curOf, h1, Option.bind_some, cur_last s (HD.out.there s (findS_mem h1)), h2]
    have hin : (i : Int) < (X.length : Int) := by omega
    clear hcs hok hx4 eX hxm xa xn hx exl
    go_wp2_with fail
    rw [← HV.out]
    refine (refLast_rx x w2 (HXO.out.below B2.out)).mono ?_
    obtain ⟨u, hu⟩ : ∃ u, x.s.vs.getLastD [] = u := ⟨_, rfl⟩
    rw [hu] at HC
    rw [hu]
    clear hu
    rintro e w3 ⟨rfl, hb3⟩
    have B3 : Hid (Below w.heap.size w w3) := B2.out.trans (hb3.mono B2.out.size)
    clear hb3 x0 x1 x2 x3
    go_wp2_with fail
    go_ret2
    exact ⟨by rw [HC.out]; rfl, B3.out⟩
  · have HC : Hid (curOf d.secs a n = none) := by
      show _ = _
      rw [curOf, no_find HX.out hno]; rfl
    clear hno
    go_wp2_with fail
    go_ret2
    exact ⟨by rw [HC.out]; rfl, B2.out⟩
/-- One more than the number of the last sector of the area among the first i. -/
def secAt (X : List RX) (a : Int) (i : Nat) : Int := (((X.take i).filter fun x => x.s.area = a).getLast?.map (·.s.n + 1)).getD 0
theorem secAt_succ {X : List RX} {a : Int} {i : Nat} {x : RX} (hx : X[i]? = some x) : secAt X a (i + 1) = if x.s.area = a then x.s.n + 1 else secAt X a i := by
  unfold secAt
  rw [take_snoc hx, List.filter_append]
  by_cases h : x.s.area = a
  · rw [if_pos h]; simp [h]
  · rw [if_neg h]; simp [h]
theorem last_top : ∀ (l : List Int), l.Pairwise (· < ·) → (∀ k ∈ l, 0 ≤ k) → (l.getLast?.map (· + 1)).getD 0 = topS l
  | [], _, _ => rfl
  | [k], _, h => by have := h k (.head _); simp [topS]; omega
  | k :: k2 :: r, hp, h => by
    have ih := last_top (k2 :: r) (List.pairwise_cons.1 hp).2 fun x hx => h x (.tail _ hx)
    have h1 := (List.pairwise_cons.1 hp).1 k2 (.head _)
    have h2 := topS_mem (k2 :: r) k2 (.head _)
    rw [List.getLast?_cons_cons]
    rw [ih]
    show topS (k2 :: r) = max (k + 1) (topS (k2 :: r))
    omega
theorem secAt_all {X : List RX} {d : DS} {a : Int} (hX : X.map RX.s = d.secs.map toRS) (hs : d.secs.Pairwise Sec.before) (ho : SecsOk d.secs) : secAt X a X.length = endS a d.secs := by
  unfold secAt endS
  rw [List.take_length]
  have e1 : (X.filter fun x => decide (x.s.area = a)).map (fun x => x.s.n) = (d.secs.filter fun s => s.area = a).map (·.n) := by
    have q1 : (X.filter fun x => decide (x.s.area = a)).map (fun x => x.s.n) = ((X.map RX.s).filter fun s => s.area = a).map (·.n) := by rw [List.filter_map, List.map_map]; rfl
    rw [q1, hX, List.filter_map, List.map_map]
    rfl
  rw [← e1]
  have e2 : ((X.filter fun x => decide (x.s.area = a)).getLast?.map (fun x => x.s.n + 1)) = ((X.filter fun x => decide (x.s.area = a)).map (fun x => x.s.n)).getLast?.map (· + 1) := by rw [List.getLast?_map, Option.map_map]; rfl
  rw [e2]
  refine last_top _ ?_ ?_
  · rw [e1, List.pairwise_map]
    have hp : (d.secs.filter fun s => decide (s.area = a)).Pairwise Sec.before := hs.filter _
    refine hp.imp_of_mem fun {s t} h1 h2 h3 => ?_
    have a1 : s.area = a := by simpa using (List.mem_filter.1 h1).2
    have a2 : t.area = a := by simpa using (List.mem_filter.1 h2).2
    unfold Sec.before at h3
    omega
  · intro k hk
    rw [e1] at hk
    obtain ⟨s, hs2, rfl⟩ := List.mem_map.1 hk
    exact (ho s (List.mem_filter.1 hs2).1).1
set_option maxHeartbeats 2000000 in
theorem refSectors_any (P : Nat → Prop) (N : Nat) (d : DS) (v : Value) (a : Int) (w : World) (h : RefIs P w v d) (hd : DsOk N d) (hN : N < 1099511627776) (ho : SecsOk d.secs) :
    Calls Try.prog 29 #[v, .int .u64 a] w fun e w' => e = .returned (.int .i64 (endS a d.secs)) ∧ Below w.heap.size w w' := by
  obtain ⟨l, X, rfl, hS, hX⟩ := h
  obtain ⟨hl1, hl2, hl3⟩ := ref_lens hd hN hX
  obtain ⟨ad, cap, rfl, _⟩ := id hS
  have t1 := DskAt.new w (rdOf d) (.slice ad X.length cap)
  obtain ⟨w1, hw1⟩ : ∃ w1, w.alloc (.cells (rdC (rdOf d) (.slice ad X.length cap)) 27) = w1 := ⟨_, rfl⟩
  rw [hw1] at t1
  have B1 : Hid (Below w.heap.size w w1) := hw1 ▸ (Below.refl _ w).alloc (Nat.le_refl _) _
  obtain ⟨d0, d1, d2, d3, d4, d5, dz⟩ := t1.cells
  have HS : Hid (SecRow P w (.slice ad X.length cap) X) := hS
  have HE : Hid (secAt X a X.length = endS a d.secs) := secAt_all hX hd.sorted ho
  have HO : Hid (∀ x ∈ X, 0 ≤ x.s.n ∧ x.s.n < 16777216) := fun x hx => by
    have : x.s ∈ d.secs.map toRS := by rw [← hX]; exact List.mem_map.2 ⟨x, hx, rfl⟩
    obtain ⟨s, hm, e⟩ := List.mem_map.1 this
    rw [← e]
    exact ho s hm
  clear t1 hS hd hX d0 d1 d2 d3 d4 ho hl1
  go_enter Try.func29, Try.ntmps29
  go_wp2_with fail
  try rw [hw1]
  clear hw1
  go_loopw [5, 6] (fun v5 v6 wr => ∃ i : Nat, v5 = .int .i64 (secAt X a i) ∧ v6 = .int .i64 i ∧ i ≤ X.length ∧ wr = w1) (fun _ v6 _ => X.length - (intOf v6).toNat)
  case atStart => exact ⟨0, rfl, rfl, Nat.zero_le _, rfl⟩
  case round =>
    obtain ⟨i, rfl, rfl, hi, rfl⟩ := hrel
    by_cases hin : i < X.length
    · obtain ⟨_, _, eX, _, hcs, hok⟩ := id HS.out
      obtain ⟨g, hg0, _, hg, hx4⟩ := hcs (by omega)
      simp only [Value.slice.injEq] at eX
      rw [← eX.1] at hg0
      subst hg0
      obtain ⟨x, hx⟩ : ∃ x, X[i]? = some x := ⟨_, List.getElem?_eq_getElem hin⟩
      obtain ⟨x0, x1, x2, x3⟩ := (hx4 i x hx).below hg B1.out
      obtain ⟨b1, b2⟩ := HO.out x (List.mem_of_getElem? hx)
      have HN2 : Hid (secAt X a (i + 1) = if x.s.area = a then x.s.n + 1 else secAt X a i) := secAt_succ hx
      clear hcs hok hx4 eX hx x2 x3
      by_cases ea : x.s.area = a
      · have e1 : (x.s.area == a) = true := by simpa using ea
        have EA : Hid (x.s.area = a) := ea
        clear ea
        go_wp2_with fail
        go_roundw
        case rel => exact ⟨i + 1, by rw [HN2.out, if_pos EA.out], by go_num, by omega, (by first | trivial | exact rfl)⟩
        case measure => simp [intOf]; omega
      · have e1 : (x.s.area == a) = false := by simpa using ea
        have EA : Hid (¬ x.s.area = a) := ea
        clear ea
        go_wp2_with fail
        go_roundw
        case rel => exact ⟨i + 1, by rw [HN2.out, if_neg EA.out], by go_num, by omega, (by first | trivial | exact rfl)⟩
        case measure => simp [intOf]; omega
    · have hii : i = X.length := by omega
      subst hii
      go_wp2_with fail
      go_ret
      exact ⟨by rw [HE.out]; rfl, B1.out⟩
end Go.Proofs.Ythdclljacdcolaa
