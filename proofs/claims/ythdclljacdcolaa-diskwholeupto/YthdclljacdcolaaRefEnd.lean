/- Texts that were written apart, joined. -/
import Derived.Test.YthdclljacdcolaaCrashAll
import Derived.Test.YthdclljacdcolaaBegun
import Derived.Test.YthdclljacdcolaaFrame
import Derived.Test.YthdclljacdcolaaRefSyn
import Derived.Test.YthdclljacdcolaaSectors
import Derived.Test.YthdclljacdcolaaAreas2
import Derived.BigQuiet
import Derived.Test.YthdclljacdcolaaRead
import Derived.Test.YthdclljacdcolaaDrawn
/- What was synced is found; whole numbers that came in. -/
namespace Go.Proofs.Ythdclljacdcolaa
open Go.ChangeShapes Go.WideShapes Go.ChangeAt Go.RowKit Go.Deep
set_option maxRecDepth 100000

theorem crash_keep {a : Int} : ∀ (ps : List Int) (S : List Sec), (∀ s ∈ S, s.area = a → s.fresh = []) → (crashS ps S).filter (fun s => decide (s.area = a)) = S.filter fun s => decide (s.area = a)
  | _, [], _ => rfl
  | ps, s :: r, h => by
    rw [crashS]
    split
    · have ih := crash_keep ps r fun t ht => h t (.tail _ ht)
      by_cases e : s.area = a
      · rw [List.filter_cons_of_pos (by simpa using e), List.filter_cons_of_pos (by simpa using e), ih]
      · rw [List.filter_cons_of_neg (by simpa using e), List.filter_cons_of_neg (by simpa using e), ih]
    · rename_i hf
      have ih := crash_keep ps.tail r fun t ht => h t (.tail _ ht)
      have e : s.area ≠ a := fun e => hf (h s (.head _) e)
      rw [List.filter_append, ih, List.filter_cons_of_neg (by simpa using e)]
      have : (crashSec (ps.headD 0) s).filter (fun s => decide (s.area = a)) = [] := by
        rw [List.filter_eq_nil_iff]
        intro t ht
        rw [(crashSec_mem ht).1]
        simpa using e
      rw [this]; rfl
theorem find_filter (a n : Int) : ∀ S : List Sec, findS a n (S.filter fun s => decide (s.area = a)) = findS a n S
  | [] => rfl
  | s :: r => by
    by_cases e : s.area = a
    · rw [List.filter_cons_of_pos (by simpa using e), findS, findS, find_filter a n r]
    · rw [List.filter_cons_of_neg (by simpa using e), findS, if_neg (fun h => e h.1), find_filter a n r]
theorem synced_same {a : Int} {ps : List Int} {S : List Sec} (h : ∀ s ∈ S, s.area = a → s.fresh = []) : endS a (crashS ps S) = endS a S ∧ ∀ n, curOf (crashS ps S) a n = curOf S a n := by
  have hk := crash_keep ps S h
  refine ⟨by unfold endS; rw [hk], fun n => ?_⟩
  unfold curOf
  rw [← find_filter a n (crashS ps S), hk, find_filter]
theorem sy_fresh (a : Int) (S : List Sec) : ∀ s ∈ sy a S, s.area = a → s.fresh = [] := by
  intro s hs e
  obtain ⟨t, _, rfl⟩ := List.mem_map.1 hs
  split at e
  · rename_i h; rw [if_pos h]; rfl
  · rename_i h; exact absurd e h
theorem sy_ok {a : Int} {S : List Sec} (h : SecsOk S) : SecsOk (sy a S) := by
  intro s hs
  obtain ⟨t, ht, rfl⟩ := List.mem_map.1 hs
  split
  · exact h t ht
  · exact h t ht
theorem crash_ok {ps : List Int} {S : List Sec} (h : SecsOk S) : SecsOk (crashS ps S) := by
  intro t ht
  obtain ⟨s, hs, _, e2, _⟩ := crashS_mem ht
  rw [e2]; exact h s hs
theorem dies_dead (d : DS) (h : stepE d ≠ 0) : (stepD d).dead = true := by
  unfold stepE at h
  unfold stepD
  by_cases hd : d.dead = true
  · rw [if_pos hd]; exact hd
  · rw [if_neg hd] at h ⊢
    cases ha : d.armed with
    | false => rw [ha] at h; simp at h
    | true =>
      rw [ha] at h
      by_cases h0 : d.ahead = 0
      · simp [h0]
      · simp [h0] at h
theorem intCells1 : Try.prog.cellsOf 3 = 1 := by kernel_rfl
theorem ints_in {H : Type} {enc : TypeId × Value → H} {W : World} {base : Nat} {v : Value} {d : DataW H} {p : List MemPlace}
    (hok : Value.okWide Try.prog W .any base 41 v) (h : DataW.Trod enc Try.prog W 0 (fun _ => true) true 41 v d p) : ∃ xs : List Int, IntsAt W v xs ∧ xs.length ≤ big d := by
  obtain ⟨a0, len, cap, rfl⟩ := okWide_slice Try.underlying41 hok
  obtain ⟨fuel, hf⟩ := h
  rcases open_ints Try.underlying41 Try.underlying3 intCells1 hf with ⟨hcs, hx⟩ | ⟨a, len', cap', zs, hcs, _, hl, hm, hz, hx, hcell, hwz⟩
  · simp [Value.cells] at hcs
    obtain ⟨rfl, rfl, rfl⟩ := hcs
    exact ⟨[], ⟨none, 0, rfl, Nat.le_refl _, by simp, fun h => by simp at h, fun x hx => by cases hx⟩, by simp⟩
  · simp [Value.cells] at hcs
    obtain ⟨rfl, rfl, rfl⟩ := hcs
    simp only [Prod.mk.injEq] at hx
    obtain ⟨rfl, _⟩ := hx
    simp only [if_true] at hz
    have hlen : (zs.take len).length = len := by rw [List.length_take]; omega
    refine ⟨zs.take len, ⟨some a, cap, by rw [hlen], by omega, by unfold maxLen at hm; omega, fun h0 => ?_, fun x hx => ?_⟩, ?_⟩
    · rw [hlen] at h0
      obtain ⟨b, off, rfl, hc⟩ := ints_at hcell (by omega)
      refine ⟨b, off, rfl, lt_of_cell (hc 0 (by omega)), fun j x hj => ?_⟩
      rw [List.getElem?_take] at hj
      split at hj
      · have hjl := (List.getElem?_eq_some_iff.1 hj).1
        rw [hc j (by omega)]
        simp [List.getD_eq_getElem?_getD, hj]
      · cases hj
    · have := bounds_i64 (hwz x (List.mem_of_mem_take hx))
      omega
    · rw [hlen]
      simp only [big, lits, List.length_map, List.length_take]
      omega
end Go.Proofs.Ythdclljacdcolaa

/- The reference of the disk: Read, Sectors. -/
namespace Go.Proofs.Ythdclljacdcolaa
open Go.RowKit
set_option maxRecDepth 100000

attribute [local go_sem ↓] exec_alloc_D exec_box_D exec_load_D exec_store_D
attribute [local go_sem] rdV_cells rdC_0 rdC_1 rdC_2 rdC_3 rdC_4 rdC_5
theorem cur_last (s : Sec) (h : s.last ≠ none ∨ s.fresh ≠ []) : s.cur = some ((toRS s).vs.getLastD []) := by
  unfold Sec.cur toRS
  rw [List.getLastD_eq_getLast?, List.getLast?_append]
  cases hf : s.fresh.getLast? with
  | some v => rfl
  | none =>
    have hn : s.fresh = [] := List.getLast?_eq_none_iff.1 hf
    cases hl : s.last with
    | none => exact absurd hl (h.resolve_right (fun x => x hn))
    | some v => rfl
def readV (o : Option (List Nat)) : Value := match o with | some v => .tuple #[.string (strB v), .bool true] | none => .tuple #[.string (ByteArray.mk #[]), .bool false]
set_option maxHeartbeats 2000000 in
theorem refRead_any (P : Nat → Prop) (N : Nat) (d : DS) (v : Value) (a n : Int) (w : World) (h : RefIs P w v d) (hd : DsOk N d) (hN : N < 1099511627776) :
    Calls Try.prog 30 #[v, .int .u64 a, .int .i64 n] w fun e w' => e = .returned (readV (curOf d.secs a n)) ∧ Below w.heap.size w w' := by
  obtain ⟨l, X, rfl, hS, hX⟩ := h
  obtain ⟨hl1, hl2, hl3⟩ := ref_lens hd hN hX
  obtain ⟨ad, cap, rfl, _⟩ := id hS
  have t1 := DskAt.new w (rdOf d) (.slice ad X.length cap)
  have hld := loadD_at t1
  obtain ⟨w1, hw1⟩ : ∃ w1, w.alloc (.cells (rdC (rdOf d) (.slice ad X.length cap)) 27) = w1 := ⟨_, rfl⟩
  have HW1 : Hid (w.alloc (.cells (rdC (rdOf d) (.slice ad X.length cap)) 27) = w1) := hw1
  rw [hw1] at t1
  have D1 : Hid (DskAt w1 w.heap.size (rdOf d) (.slice ad X.length cap)) := t1
  have B1 : Hid (Below w.heap.size w w1) := hw1 ▸ (Below.refl _ w).alloc (Nat.le_refl _) _
  have hs1 : w1.heap.size = w.heap.size + 1 := by rw [← hw1]; simp
  have HS : Hid (SecRow P w (.slice ad X.length cap) X) := hS
  have HD : Hid (DsOk N d) := hd
  have HX : Hid (X.map RX.s = d.secs.map toRS) := hX
  clear hw1 t1 hS hd hX hl1
  go_enter Try.func30, Try.ntmps30
  go_wp2_with fail
  rw [HW1.out]
  clear hld HW1
  refine (refAt_sec (rdOf d) (.slice ad X.length cap) X a n w1 (HS.out.below B1.out)).mono ?_
  rintro e w2 ⟨⟨k, rfl, hk⟩, hb2⟩
  have hD2 := D1.out.below (by omega) hb2
  have B2 : Hid (Below w.heap.size w w2) := B1.out.trans (hb2.mono (by omega))
  obtain ⟨d0, d1, d2, d3, d4, d5, dz⟩ := hD2.cells
  clear hb2 hD2 d0 d1 d2 d3 d4
  rcases hk with ⟨i, x, rfl, hx, xa, xn⟩ | ⟨rfl, hno⟩
  · have h0' : ¬ ((i : Int) < 0) := by omega
    have hil := (List.getElem?_eq_some_iff.1 hx).1
    obtain ⟨_, _, eX, _, hcs, hok⟩ := id HS.out
    obtain ⟨g, hg0, _, hg, hx4⟩ := hcs (by omega)
    simp only [Value.slice.injEq] at eX
    rw [← eX.1] at hg0
    subst hg0
    obtain ⟨x0, x1, x2, x3⟩ := (hx4 i x hx).below hg B2.out
    have hxm := List.mem_of_getElem? hx
    have HXO : Hid (x.ok P w) := hok x hxm
    obtain ⟨⟨xh, xc, exl, _, _, _⟩, _⟩ := id (hok x hxm)
    rw [exl] at x2
    have HV : Hid (x.val = .agg #[.int .u64 x.s.area, .int .i64 x.s.n, .slice (some ⟨xh, 0, none⟩) x.s.vs.length xc, .bool x.s.sy]) := by show _ = _; unfold RX.val; rw [exl]
    have HC : Hid (curOf d.secs a n = some (x.s.vs.getLastD [])) := by
      obtain ⟨s, h1, h2⟩ := is_find HD.out.sorted HX.out hxm
      rw [xa, xn] at h1
      show _ = _
      rw [curOf, h1, Option.bind_some, cur_last s (HD.out.there s (findS_mem h1)), h2]
    have hin : (i : Int) < (X.length : Int) := by omega
    clear hcs hok hx4 eX hxm xa xn hx exl
    go_wp2_with fail
    rw [← HV.out]
    refine (refLast_rx x w2 (HXO.out.below B2.out)).mono ?_
    obtain ⟨u, hu⟩ : ∃ u, x.s.vs.getLastD [] = u := ⟨_, rfl⟩
    rw [hu] at HC
    rw [hu]
    clear hu
    rintro e w3 ⟨rfl, hb3⟩
    have B3 : Hid (Below w.heap.size w w3) := B2.out.trans (hb3.mono B2.out.size)
    clear hb3 x0 x1 x2 x3
    go_wp2_with fail
    go_ret2
    exact ⟨by rw [HC.out]; rfl, B3.out⟩
  · have HC : Hid (curOf d.secs a n = none) := by
      show _ = _
      rw [curOf, no_find HX.out hno]; rfl
    clear hno
    go_wp2_with fail
    go_ret2
    exact ⟨by rw [HC.out]; rfl, B2.out⟩
/-- One more than the number of the last sector of the area among the first i. -/
def secAt (X : List RX) (a : Int) (i : Nat) : Int := (((X.take i).filter fun x => x.s.area = a).getLast?.map (·.s.n + 1)).getD 0
theorem secAt_succ {X : List RX} {a : Int} {i : Nat} {x : RX} (hx : X[i]? = some x) : secAt X a (i + 1) = if x.s.area = a then x.s.n + 1 else secAt X a i := by
  unfold secAt
  rw [take_snoc hx, List.filter_append]
  by_cases h : x.s.area = a
  · rw [if_pos h]; simp [h]
  · rw [if_neg h]; simp [h]
theorem last_top : ∀ (l : List Int), l.Pairwise (· < ·) → (∀ k ∈ l, 0 ≤ k) → (l.getLast?.map (· + 1)).getD 0 = topS l
  | [], _, _ => rfl
  | [k], _, h => by have := h k (.head _); simp [topS]; omega
  | k :: k2 :: r, hp, h => by
    have ih := last_top (k2 :: r) (List.pairwise_cons.1 hp).2 fun x hx => h x (.tail _ hx)
    have h1 := (List.pairwise_cons.1 hp).1 k2 (.head _)
    have h2 := topS_mem (k2 :: r) k2 (.head _)
    rw [List.getLast?_cons_cons]
    rw [ih]
    show topS (k2 :: r) = max (k + 1) (topS (k2 :: r))
    omega
theorem secAt_all {X : List RX} {d : DS} {a : Int} (hX : X.map RX.s = d.secs.map toRS) (hs : d.secs.Pairwise Sec.before) (ho : SecsOk d.secs) : secAt X a X.length = endS a d.secs := by
  unfold secAt endS
  rw [List.take_length]
  have e1 : (X.filter fun x => decide (x.s.area = a)).map (fun x => x.s.n) = (d.secs.filter fun s => s.area = a).map (·.n) := by
    have q1 : (X.filter fun x => decide (x.s.area = a)).map (fun x => x.s.n) = ((X.map RX.s).filter fun s => s.area = a).map (·.n) := by rw [List.filter_map, List.map_map]; rfl
    rw [q1, hX, List.filter_map, List.map_map]
    rfl
  rw [← e1]
  have e2 : ((X.filter fun x => decide (x.s.area = a)).getLast?.map (fun x => x.s.n + 1)) = ((X.filter fun x => decide (x.s.area = a)).map (fun x => x.s.n)).getLast?.map (· + 1) := by rw [List.getLast?_map, Option.map_map]; rfl
  rw [e2]
  refine last_top _ ?_ ?_
  · rw [e1, List.pairwise_map]
    have hp : (d.secs.filter fun s => decide (s.area = a)).Pairwise Sec.before := hs.filter _
    refine hp.imp_of_mem fun {s t} h1 h2 h3 => ?_
    have a1 : s.area = a := by simpa using (List.mem_filter.1 h1).2
    have a2 : t.area = a := by simpa using (List.mem_filter.1 h2).2
    unfold Sec.before at h3
    omega
  · intro k hk
    rw [e1] at hk
    obtain ⟨s, hs2, rfl⟩ := List.mem_map.1 hk
    exact (ho s (List.mem_filter.1 hs2).1).1
set_option maxHeartbeats 2000000 in
theorem refSectors_any (P : Nat → Prop) (N : Nat) (d : DS) (v : Value) (a : Int) (w : World) (h : RefIs P w v d) (hd : DsOk N d) (hN : N < 1099511627776) (ho : SecsOk d.secs) :
    Calls Try.prog 29 #[v, .int .u64 a] w fun e w' => e = .returned (.int .i64 (endS a d.secs)) ∧ Below w.heap.size w w' := by
  obtain ⟨l, X, rfl, hS, hX⟩ := h
  obtain ⟨hl1, hl2, hl3⟩ := ref_lens hd hN hX
  obtain ⟨ad, cap, rfl, _⟩ := id hS
  have t1 := DskAt.new w (rdOf d) (.slice ad X.length cap)
  obtain ⟨w1, hw1⟩ : ∃ w1, w.alloc (.cells (rdC (rdOf d) (.slice ad X.length cap)) 27) = w1 := ⟨_, rfl⟩
  rw [hw1] at t1
  have B1 : Hid (Below w.heap.size w w1) := hw1 ▸ (Below.refl _ w).alloc (Nat.le_refl _) _
  obtain ⟨d0, d1, d2, d3, d4, d5, dz⟩ := t1.cells
  have HS : Hid (SecRow P w (.slice ad X.length cap) X) := hS
  have HE : Hid (secAt X a X.length = endS a d.secs) := secAt_all hX hd.sorted ho
  have HO : Hid (∀ x ∈ X, 0 ≤ x.s.n ∧ x.s.n < 16777216) := fun x hx => by
    have : x.s ∈ d.secs.map toRS := by rw [← hX]; exact List.mem_map.2 ⟨x, hx, rfl⟩
    obtain ⟨s, hm, e⟩ := List.mem_map.1 this
    rw [← e]
    exact ho s hm
  clear t1 hS hd hX d0 d1 d2 d3 d4 ho hl1
  go_enter Try.func29, Try.ntmps29
  go_wp2_with fail
  try rw [hw1]
  clear hw1
  go_loopw [5, 6] (fun v5 v6 wr => ∃ i : Nat, v5 = .int .i64 (secAt X a i) ∧ v6 = .int .i64 i ∧ i ≤ X.length ∧ wr = w1) (fun _ v6 _ => X.length - (intOf v6).toNat)
  case atStart => exact ⟨0, rfl, rfl, Nat.zero_le _, rfl⟩
  case round =>
    obtain ⟨i, rfl, rfl, hi, rfl⟩ := hrel
    by_cases hin : i < X.length
    · obtain ⟨_, _, eX, _, hcs, hok⟩ := id HS.out
      obtain ⟨g, hg0, _, hg, hx4⟩ := hcs (by omega)
      simp only [Value.slice.injEq] at eX
      rw [← eX.1] at hg0
      subst hg0
      obtain ⟨x, hx⟩ : ∃ x, X[i]? = some x := ⟨_, List.getElem?_eq_getElem hin⟩
      obtain ⟨x0, x1, x2, x3⟩ := (hx4 i x hx).below hg B1.out
      obtain ⟨b1, b2⟩ := HO.out x (List.mem_of_getElem? hx)
      have HN2 : Hid (secAt X a (i + 1) = if x.s.area = a then x.s.n + 1 else secAt X a i) := secAt_succ hx
      clear hcs hok hx4 eX hx x2 x3
      by_cases ea : x.s.area = a
      · have e1 : (x.s.area == a) = true := by simpa using ea
        have EA : Hid (x.s.area = a) := ea
        clear ea
        go_wp2_with fail
        go_roundw
        case rel => exact ⟨i + 1, by rw [HN2.out, if_pos EA.out], by go_num, by omega, (by first | trivial | exact rfl)⟩
        case measure => simp [intOf]; omega
      · have e1 : (x.s.area == a) = false := by simpa using ea
        have EA : Hid (¬ x.s.area = a) := ea
        clear ea
        go_wp2_with fail
        go_roundw
        case rel => exact ⟨i + 1, by rw [HN2.out, if_neg EA.out], by go_num, by omega, (by first | trivial | exact rfl)⟩
        case measure => simp [intOf]; omega
    · have hii : i = X.length := by omega
      subst hii
      go_wp2_with fail
      go_ret
      exact ⟨by rw [HE.out]; rfl, B1.out⟩
end Go.Proofs.Ythdclljacdcolaa

/- The reference of the disk: Areas. -/
namespace Go.Proofs.Ythdclljacdcolaa
open Go.RowKit Go.Lib
set_option maxRecDepth 100000

attribute [local go_sem ↓] exec_alloc_D exec_box_D exec_load_D exec_store_D
attribute [local go_sem] rdV_cells rdC_0 rdC_1 rdC_2 rdC_3 rdC_4 rdC_5
def NumOwn (B : Nat) (w : World) (v : Value) (xs : List Int) : Prop := w.ownsRow B 31 1 v xs.length (xs.map (Value.int .u64))
theorem compact_succ (d : Array Int) (m : Nat) : compactUpTo d (m + 1) = compactUpTo d m ++ (if keeps d m then [d[m]!] else []) := by
  unfold compactUpTo
  rw [List.range_succ, List.filter_append, List.map_append]
  congr 1
  by_cases h : keeps d m = true
  · simp [h]
  · simp [h]
theorem compact_last (d : Array Int) : ∀ m, (compactUpTo d (m + 1)).getLast? = some d[m]!
  | 0 => by rw [compact_succ]; simp [keeps, compactUpTo]
  | m + 1 => by
    have ih := compact_last d m
    rw [compact_succ]
    by_cases h : keeps d (m + 1) = true
    · rw [if_pos h]; simp
    · rw [if_neg h, List.append_nil, ih]
      simp [keeps] at h
      rw [← h]
theorem cell_new (w : World) (v : Value) (t : TypeId) : (w.alloc (.cells #[v] t)).cell? ⟨w.heap.size, 0, none⟩ = some v := by simp
theorem append_num {w : World} {ops : Array Oper} {rest : List Oper} {o : Oper} {a : Act} {Q : Exit → Act → World → Prop} (hgd : o.guard = none) (s x : Operand)
    (ho : o.op = .call { callee := .builtin .append, args := #[s, x], argTypes := #[52, 52] }) (B : Nat) (v : Value) (xs : List Int) (y : Int)
    (hs : a.eval s = v) (hown : NumOwn B w v xs) (g c : Nat) (hx : a.eval x = .slice (some ⟨g, 0, none⟩) 1 c) (h1 : w.cell? ⟨g, 0, none⟩ = some (.int .u64 y)) (hl : xs.length ≤ 1099511627777) (hB : B ≤ w.heap.size)
    (h : ∀ v' w', NumOwn B w' v' (xs ++ [y]) → Below B w w' → wpList Try.prog ops Q rest (a.put o.dst v') w') : wpList Try.prog ops Q (o :: rest) a w := by
  obtain ⟨i0, hi, hz0, hz1, hz2⟩ := info_parts uintT
  refine wpList_append_own w hgd s x 52 ho B 31 i0 _ 1 8 Try.underlying52 hi hz0 hz1 hz2 rfl (by decide) v xs.length _ hs hown ⟨g, 0, none⟩ 1 c [.int .u64 y] hx rfl ?_ ?_ (by unfold maxLen; omega) (by omega) hB ?_
  · intro j u hj
    match j, hj with
    | 0, hj => simp at hj; rw [← hj]; exact h1
    | j + 1, hj => simp at hj
  · intro u hu
    simp at hu
    rw [hu]; rfl
  · intro v' w' h5 h6 _
    refine h v' w' ?_ ((Below.refl B w).grown h6 hB (fun k hk => (World.ownsRow.lt hown k hk).1))
    unfold NumOwn
    rw [List.map_append, List.length_append]
    exact h5
theorem NumOwn.cells {B : Nat} {w : World} {v : Value} {xs : List Int} {m : Nat} (h : NumOwn B w v xs) (hl : xs.length = m + 1) (z : Int) (hz : xs.getLast? = some z) : ∃ g c, v = .slice (some ⟨g, 0, none⟩) (m + 1) c ∧ w.cell? ⟨g, m, none⟩ = some (.int .u64 z) := by
  obtain ⟨h1, ⟨e, h0⟩ | ⟨g, cap, cur, rfl, hb, hh, h3, h4, h5, h6⟩⟩ := h
  · omega
  · refine ⟨g, cap, by rw [hl], ?_⟩
    have e : (xs.map (Value.int .u64))[m]? = some (.int .u64 z) := by
      rw [List.getElem?_map]
      have : xs[m]? = some z := by rw [← hz, List.getLast?_eq_getElem?, hl]; rfl
      rw [this]; rfl
    rw [← h6, Nat.mul_one, List.getElem?_take] at e
    split at e
    · simpa [World.cell?, hh] using e
    · cases e
theorem NumOwn.shape {B : Nat} {w : World} {v : Value} {xs : List Int} (h : NumOwn B w v xs) : ∃ ad cap, v = .slice ad xs.length cap := by
  obtain ⟨hl, ⟨e, h0⟩ | ⟨g, cap, cur, rfl, _⟩⟩ := h
  · exact ⟨none, 0, by rw [e, h0]⟩
  · exact ⟨_, cap, rfl⟩
theorem NumOwn.alloc {B : Nat} {w : World} {v : Value} {xs : List Int} (h : NumOwn B w v xs) (o : Obj) : NumOwn B (w.alloc o) v xs := by
  obtain ⟨hl, hn | ⟨g, cap, cur, rfl, h1, hg, h2⟩⟩ := h
  · exact ⟨hl, .inl hn⟩
  · exact ⟨hl, .inr ⟨g, cap, cur, rfl, h1, (alloc_old w o (Array.getElem?_eq_some_iff.1 hg).1).trans hg, h2⟩⟩
theorem NumOwn.drewN {B : Nat} {w : World} {v : Value} {xs : List Int} (h : NumOwn B w v xs) (n : Nat) : NumOwn B (w.drewN n) v xs := h
def AX (X : List RX) : Array Int := (X.map (·.s.area)).toArray
structure AreaR (w w1 : World) (X : List RX) (v3 v4 : Value) (wr : World) (i : Nat) : Prop where
  e4 : v4 = .int .i64 i
  hi : i ≤ X.length
  own : NumOwn (w.heap.size + 1) wr v3 (compactUpTo (AX X) i)
  below : Below (w.heap.size + 1) w1 wr
theorem AX_get {X : List RX} {i : Nat} {x : RX} (hx : X[i]? = some x) : (AX X)[i]! = x.s.area := by
  simp [AX, hx]
set_option maxHeartbeats 1000000 in
theorem refAreas_any (P : Nat → Prop) (N : Nat) (d : DS) (v : Value) (w : World) (h : RefIs P w v d) (hd : DsOk N d) (hN : N < 1099511627776) :
    Calls Try.prog 27 #[v] w fun e w' => ∃ v', e = .returned v' ∧ NumRow w' v' (areasS d.secs) ∧ Below w.heap.size w w' := by
  obtain ⟨l, X, rfl, hS, hX⟩ := h
  obtain ⟨hl1, hl2, hl3⟩ := ref_lens hd hN hX
  obtain ⟨ad, cap, rfl, _⟩ := id hS
  have t1 := DskAt.new w (rdOf d) (.slice ad X.length cap)
  obtain ⟨w1, hw1⟩ : ∃ w1, w.alloc (.cells (rdC (rdOf d) (.slice ad X.length cap)) 27) = w1 := ⟨_, rfl⟩
  rw [hw1] at t1
  have T1 : Hid (DskAt w1 w.heap.size (rdOf d) (.slice ad X.length cap)) := t1
  have B1 : Hid (Below w.heap.size w w1) := hw1 ▸ (Below.refl _ w).alloc (Nat.le_refl _) _
  have hs1 : w1.heap.size = w.heap.size + 1 := by rw [← hw1]; simp
  have HS : Hid (SecRow P w (.slice ad X.length cap) X) := hS
  have HE : Hid (compactUpTo (AX X) X.length = areasS d.secs) := by
    show _ = _
    have e1 : X.map (·.s.area) = d.secs.map (·.area) := by
      have := congrArg (List.map RS.area) hX
      rw [List.map_map, List.map_map] at this
      exact this
    unfold areasS Lib.compact AX
    rw [e1]
    congr 1
    rw [← e1]; simp
  clear t1 hS hd hX hl1
  go_enter Try.func27, Try.ntmps27
  go_wp2_with fail
  try rw [hw1]
  clear hw1
  go_loopw [3, 4] (fun v3 v4 wr => ∃ i, AreaR w w1 X v3 v4 wr i) (fun _ v4 _ => X.length - (intOf v4).toNat)
  case atStart => exact ⟨0, rfl, Nat.zero_le _, World.ownsRow_nil _ _ _ _, Below.refl _ _⟩
  case round =>
    obtain ⟨i, hI⟩ := hrel
    have HI : Hid (AreaR w w1 X _ _ wr i) := hI
    obtain ⟨rfl, hi, hown, hbw⟩ := hI
    have hsr := hbw.size
    have hD5 := T1.out.below (B := w.heap.size + 1) (by omega) hbw
    have B5 : Hid (Below w.heap.size w wr) := B1.out.trans (hbw.mono (by omega))
    obtain ⟨d0, d1, d2, d3, d4, d5, dz⟩ := hD5.cells
    clear hbw hD5 d0 d1 d2 d3 d4
    have n1 : w.heap.size < wr.heap.size := by omega
    by_cases hin : i < X.length
    · obtain ⟨_, _, eX, _, hcs, hok⟩ := id HS.out
      obtain ⟨g, hg0, _, hg, hx4⟩ := hcs (by omega)
      simp only [Value.slice.injEq] at eX
      rw [← eX.1] at hg0
      subst hg0
      obtain ⟨x, hx⟩ : ∃ x, X[i]? = some x := ⟨_, List.getElem?_eq_getElem hin⟩
      obtain ⟨x0, x1, x2, x3⟩ := (hx4 i x hx).below hg B5.out
      have HC : Hid (compactUpTo (AX X) (i + 1) = compactUpTo (AX X) i ++ (if keeps (AX X) i then [x.s.area] else [])) := by
        show _ = _
        rw [compact_succ, AX_get hx]
      have hle : (compactUpTo (AX X) i).length ≤ i := by
        unfold compactUpTo
        rw [List.length_map]
        exact Nat.le_trans (List.length_filter_le _ _) (by simp)
      clear hcs hok hx4 eX x1 x2 x3
      by_cases h0 : i = 0
      · subst h0
        have HK : Hid (keeps (AX X) 0 = true) := by show _ = _; simp [keeps]
        have hc0 : compactUpTo (AX X) 0 = [] := by simp [compactUpTo]
        rw [hc0] at hown HC
        obtain ⟨av, ac, rfl⟩ := hown.shape
        have HO : Hid (NumOwn (w.heap.size + 1) wr (.slice av ([] : List Int).length ac) []) := hown
        clear hown hc0 hx hle
        go_wp2_with fail
        go_quiet (fail)
        go_wp2_with (at_builtin; refine append_num rfl _ _ rfl (w.heap.size + 1) _ [] x.s.area rfl ((HO.out.drewN nq).alloc _) _ _ rfl (cell_new (wr.drewN nq) _ _) (by simp) (by simp; omega) ?_; intro v' w' ho' hb'; obtain ⟨bv2, bc2, rfl⟩ := ho'.shape; have HO2 : Hid (NumOwn (w.heap.size + 1) w' (.slice bv2 ([] ++ [x.s.area]).length bc2) ([] ++ [x.s.area])) := ho'; have HB : Hid (Below (w.heap.size + 1) wr w') := (((below_drewN (Below.refl _ wr) nq).alloc (by simp; omega) _)).trans hb'; clear ho' hb')
        go_roundw
        case rel => exact ⟨1, by go_num, by omega, by rw [HC.out, if_pos HK.out]; simpa using HO2.out, HI.out.below.trans HB.out⟩
        case measure => simp [intOf]; omega
      · obtain ⟨j, hj⟩ : ∃ j, i = j + 1 := ⟨i - 1, by omega⟩
        have hlast := compact_last (AX X) j
        rw [← hj] at hlast
        obtain ⟨x', hx'⟩ : ∃ x, X[j]? = some x := ⟨_, List.getElem?_eq_getElem (by omega)⟩
        rw [AX_get hx'] at hlast
        obtain ⟨xs, hxs⟩ : ∃ xs, compactUpTo (AX X) i = xs := ⟨_, rfl⟩
        rw [hxs] at hown HC hle hlast
        obtain ⟨m, hm⟩ : ∃ m, xs.length = m + 1 := ⟨xs.length - 1, by
          have : xs ≠ [] := fun e => by rw [e] at hlast; cases hlast
          have := List.length_pos_iff.2 this
          omega⟩
        obtain ⟨lg, lc, rfl, hlc⟩ := hown.cells hm x'.s.area hlast
        have HO : Hid (NumOwn (w.heap.size + 1) wr (.slice (some ⟨lg, 0, none⟩) (m + 1) lc) xs) := hown
        have hne : ((m + 1 : Nat) : Int) ≠ 0 := by omega
        have e0 : ((((m + 1 : Nat) : Int)) == 0) = false := by simpa using hne
        have HKK : Hid (keeps (AX X) i = decide (x.s.area ≠ x'.s.area)) := by
          show _ = _
          unfold keeps
          rw [AX_get hx]
          have : i - 1 = j := by omega
          rw [this, AX_get hx']
          simp [h0]
        have HMM : Hid (xs.length = m + 1) := hm
        have hw1 : IntKind.i64.wrap (m : Int) = (m : Int) := by simp [IntKind.wrap, IntKind.bits, IntKind.signed]; omega
        have hw2 : (0 : Int) ≤ (m : Int) := by omega
        have hw3 : (m : Int) < (m : Int) + 1 := by omega
        clear hown hxs hx hx' hlast hm hj h0
        by_cases hk : x'.s.area = x.s.area
        · have e1 : (x'.s.area != x.s.area) = false := by simp [hk]
          have HK : Hid (keeps (AX X) i = false) := by show _ = _; rw [HKK.out]; simp [hk]
          clear hk
          go_wp2_with fail
          go_quiet (fail)
          go_wp2_with fail
          go_roundw
          case rel => exact ⟨i + 1, by go_num, by omega, by rw [HC.out, HK.out]; simp only [Bool.false_eq_true, if_false, List.append_nil]; exact HO.out.drewN nq, HI.out.below.trans (below_drewN (Below.refl _ wr) nq)⟩
          case measure => simp [intOf]; omega
        · have e1 : (x'.s.area != x.s.area) = true := by simpa using hk
          have HK : Hid (keeps (AX X) i = true) := by
            show _ = _
            rw [HKK.out]
            simp
            exact fun e => hk e.symm
          clear hk
          go_wp2_with fail
          go_quiet (fail)
          go_wp2_with (at_builtin; refine append_num rfl _ _ rfl (w.heap.size + 1) _ xs x.s.area rfl ((HO.out.drewN nq).alloc _) _ _ rfl (cell_new (wr.drewN nq) _ _) (by omega) (by simp; omega) ?_; intro v' w' ho' hb'; obtain ⟨bv2, bc2, rfl⟩ := ho'.shape; have HO2 : Hid (NumOwn (w.heap.size + 1) w' (.slice bv2 (xs ++ [x.s.area]).length bc2) (xs ++ [x.s.area])) := ho'; have HB : Hid (Below (w.heap.size + 1) wr w') := (((below_drewN (Below.refl _ wr) nq).alloc (by simp; omega) _)).trans hb'; clear ho' hb')
          go_roundw
          case rel => exact ⟨i + 1, by go_num, by omega, by rw [HC.out, if_pos HK.out]; simpa using HO2.out, HI.out.below.trans HB.out⟩
          case measure => simp [intOf]; omega
    · have hii : i = X.length := by omega
      subst hii
      obtain ⟨av, ac, rfl⟩ := hown.shape
      have HO : Hid (NumOwn (w.heap.size + 1) wr (.slice av (compactUpTo (AX X) X.length).length ac) (compactUpTo (AX X) X.length)) := hown
      clear hown
      go_wp2_with fail
      go_ret
      refine ⟨_, rfl, ?_, B5.out⟩
      rw [← HE.out]
      exact NumRow.of_own HO.out
end Go.Proofs.Ythdclljacdcolaa

/- Does a disk tell what the document says? -/
namespace Go.Proofs.Ythdclljacdcolaa
open Go.RowKit Go.Lib
set_option maxRecDepth 100000

attribute [local go_sem ↓] exec_alloc_D exec_box_D exec_load_D exec_store_D
attribute [local go_sem] rdV_cells rdC_0 rdC_1 rdC_2 rdC_3 rdC_4 rdC_5
theorem str_nil : strB [] = ByteArray.mk #[] := by rfl
theorem conv_nil (W : World) : (convert 32 9 (.slice none 0 0)).run Try.prog W = .ok (.string (ByteArray.mk #[])) W := by
  have h : Row 0 W (.slice none 0 0) [] := ⟨none, 0, rfl, Nat.le_refl _, fun _ => rfl, fun h => by simp at h⟩
  have := h.str
  rw [str_nil] at this
  exact this
theorem ver_row {W : World} {b : Nat} {v : List Nat} {t : TypeId} (h : W.heap[b]? = some (.cells (verC v) t (0, 0))) (hv : v.length = 64) : Row W.heap.size W (.slice (some ⟨b, 0, none⟩) 64 64) v := by
  refine ⟨some ⟨b, 0, none⟩, 64, by rw [hv], by omega, (fun h => by cases h), fun _ => ⟨b, 0, rfl, (Array.getElem?_eq_some_iff.1 h).1, fun i hi => ?_⟩⟩
  simp [World.cell?, h, verC, hi]
theorem conv_ver {W : World} {b : Nat} {v : List Nat} {t : TypeId} (h : W.heap[b]? = some (.cells (verC v) t (0, 0))) (hv : v.length = 64) : (convert 32 9 (.slice (some ⟨b, 0, none⟩) 64 64)).run Try.prog W = .ok (.string (strB v)) W := (ver_row h hv).str
theorem NumRow.get {w : World} {v : Value} {xs : List Int} (h : NumRow w v xs) {i : Nat} {x : Int} (hx : xs[i]? = some x) : ∃ g c, v = .slice (some ⟨g, 0, none⟩) xs.length c ∧ g < w.heap.size ∧ w.cell? ⟨g, i, none⟩ = some (.int .u64 x) := by
  rcases h with ⟨rfl, rfl⟩ | ⟨g, cap, rfl, hg, hc⟩
  · simp at hx
  · exact ⟨g, cap, rfl, hg, hc i _ (by rw [List.getElem?_map, hx]; rfl)⟩
set_option maxHeartbeats 1000000 in
theorem stands_any (P : Nat → Prop) (N p : Nat) (d : DS) (fp : List Nat) (rv : Value) (w : World) (h : DiskAt N w p d fp) (hr : RefIs P w rv d) (ho : SecsOk d.secs) (hN : N < 1099511627776) :
    Calls Try.prog 12 #[.pointer (some ⟨p, 0, none⟩), rv] w fun e w' => e = .returned (.bool true) ∧ Below w.heap.size w w' := by
  obtain ⟨ad, n, c, rfl⟩ := hr.form
  have t1 := DskAt.new w (rdOf d) (.slice ad n c)
  obtain ⟨w0, hw0⟩ : ∃ w0, w.alloc (.cells (rdC (rdOf d) (.slice ad n c)) 27) = w0 := ⟨_, rfl⟩
  have HW0 : Hid (w.alloc (.cells (rdC (rdOf d) (.slice ad n c)) 27) = w0) := hw0
  rw [hw0] at t1
  have B0 : Hid (Below w.heap.size w w0) := hw0 ▸ (Below.refl _ w).alloc (Nat.le_refl _) _
  have D0 : Hid (DskAt w0 w.heap.size (rdOf d) (.slice ad n c)) := t1
  have hs0 : w0.heap.size = w.heap.size + 1 := by rw [← hw0]; simp
  have HK : Hid (DsOk N d) := h.ok
  have HO : Hid (SecsOk d.secs) := ho
  have H0 : Hid (DiskAt N w0 p d fp) := h.below B0.out
  have R0 : Hid (RefIs P w0 (rdV (rdOf d) (.slice ad n c)) d) := hr.below B0.out
  clear h hr ho hw0 t1
  go_enter Try.func12, Try.ntmps12
  go_wp2_with fail
  rw [HW0.out]
  refine (Areas_any N p d fp w0 H0.out hN).mono ?_
  rintro e w1 ⟨v5, rfl, hr5, hb1⟩
  have B1 : Hid (Below w.heap.size w w1) := B0.out.trans (hb1.mono (by omega))
  have hD1 := D0.out.below (by omega) hb1
  have hld1 := loadD_at hD1
  have HR5 : Hid (NumRow w1 v5 (areasS d.secs)) := hr5
  have R1 : Hid (RefIs P w1 (rdV (rdOf d) (.slice ad n c)) d) := R0.out.below hb1
  have H1 : Hid (DiskAt N w1 p d fp) := H0.out.below hb1
  have D1 : Hid (DskAt w1 w.heap.size (rdOf d) (.slice ad n c)) := hD1
  have hs1 := hb1.size
  clear HW0 hr5 hb1 hD1 H0 R0
  go_wp2_with fail
  refine (refAreas_any P N d _ w1 R1.out HK.out hN).mono ?_
  rintro e w2 ⟨v6, rfl, hr6, hb2⟩
  have B2 : Hid (Below w.heap.size w w2) := B1.out.trans (hb2.mono (by omega))
  have D2 : Hid (DskAt w2 w.heap.size (rdOf d) (.slice ad n c)) := D1.out.below (by omega) hb2
  have R2 : Hid (RefIs P w2 (rdV (rdOf d) (.slice ad n c)) d) := R1.out.below hb2
  have H2 : Hid (DiskAt N w2 p d fp) := H1.out.below hb2
  have Q5 : Hid (NumRow w2 v5 (areasS d.secs)) := HR5.out.below hb2
  have Q6 : Hid (NumRow w2 v6 (areasS d.secs)) := hr6
  have hs2 := hb2.size
  obtain ⟨A, hA⟩ : ∃ A, areasS d.secs = A := ⟨_, rfl⟩
  rw [hA] at Q5 Q6
  have hAl : A.length < 1099511627776 := by
    rw [← hA, areasS, Lib.compact, compactUpTo, List.length_map]
    have h1 := List.length_filter_le (keeps (d.secs.map (·.area)).toArray) (List.range (d.secs.map (·.area)).length)
    have h2 := HK.out.len
    simp at h1
    simp
    omega
  obtain ⟨ad5, c5, rfl⟩ := Q5.out.form
  obtain ⟨ad6, c6, rfl⟩ := Q6.out.form
  obtain ⟨d0, d1, d2, d3, d4, d5, dz⟩ := D2.out.cells
  have e0 : d.room - (d.secs.length : Int) = (rdOf d).room := rfl
  have e1 : d.steps = (rdOf d).steps := rfl
  have e2 : d.dead = (rdOf d).dead := rfl
  clear hr6 hb2 hld1 R1 H1 D1 HR5 B0 D0 hA
  go_wp2_with fail
  go_quiet (first | (go_at_call 28; refine Calls.quiet_of (Room_any N p d fp _ (H2.out.same fun _ _ => rfl))) | (go_at_call 15; refine Calls.quiet_of_same (Steps_any N p d fp _ (H2.out.same fun _ _ => rfl))) | (go_at_call 20; refine Calls.quiet_of_same (Dead_any N p d fp _ (H2.out.same fun _ _ => rfl))))
  obtain ⟨w3, hw3⟩ : ∃ w3, w2.drewN nq = w3 := ⟨_, rfl⟩
  rw [hw3]
  have B3 : Hid (Below w.heap.size w w3) := hw3 ▸ below_drewN B2.out nq
  have D3 : Hid (DskAt w3 w.heap.size (rdOf d) (.slice ad n c)) := hw3 ▸ D2.out
  have R3 : Hid (RefIs P w3 (rdV (rdOf d) (.slice ad n c)) d) := hw3 ▸ R2.out.below (below_drewN (Below.refl _ w2) nq)
  have H3 : Hid (DiskAt N w3 p d fp) := hw3 ▸ H2.out.below (below_drewN (Below.refl _ w2) nq)
  have P5 : Hid (NumRow w3 (.slice ad5 A.length c5) A) := hw3 ▸ Q5.out.below (below_drewN (Below.refl _ w2) nq)
  have P6 : Hid (NumRow w3 (.slice ad6 A.length c6) A) := hw3 ▸ Q6.out.below (below_drewN (Below.refl _ w2) nq)
  have hs3 : w.heap.size < w3.heap.size := D3.out.lt
  clear hw3 B2 D2 R2 H2 Q5 Q6 d0 d1 d2 d3 d4 d5 dz e0 e1 e2
  go_wp2_with fail
  go_loopw [49] (fun v wr => ∃ i : Nat, v = .int .i64 i ∧ i ≤ A.length ∧ Below w3.heap.size w3 wr) (fun v _ => A.length - (intOf v).toNat)
  case atStart => exact ⟨0, rfl, Nat.zero_le _, Below.refl _ _⟩
  case round =>
    obtain ⟨i, rfl, hi, hbr⟩ := hrel
    have BR : Hid (Below w3.heap.size w3 wr) := hbr
    clear hbr
    by_cases hin : i < A.length
    · obtain ⟨a, ha⟩ : ∃ a, A[i]? = some a := ⟨_, List.getElem?_eq_getElem hin⟩
      obtain ⟨g5, c5', e5, hg5, hc5⟩ := P5.out.get ha
      obtain ⟨g6, c6', e6, hg6, hc6⟩ := P6.out.get ha
      simp only [Value.slice.injEq] at e5 e6
      obtain ⟨rfl, _, rfl⟩ := e5
      obtain ⟨rfl, _, rfl⟩ := e6
      have hil : (i : Int) < (A.length : Int) := by omega
      have FA : Hid (∀ W, Below w3.heap.size w3 W → W.cell? ⟨g5, i, none⟩ = some (.int .u64 a) ∧ W.cell? ⟨g6, i, none⟩ = some (.int .u64 a) ∧ loadD Try.prog (.pointer (some ⟨w.heap.size, 0, none⟩)) W = .ok (rdV (rdOf d) (.slice ad n c)) W) := fun W hW =>
        ⟨(hW.cell (p := ⟨g5, i, none⟩) hg5).trans hc5, (hW.cell (p := ⟨g6, i, none⟩) hg6).trans hc6, loadD_at (D3.out.below hs3 hW)⟩
      clear ha hc5 hc6
      go_wp2_with fail
      have HS : Below w3.heap.size w3 wr.drew := BR.out.drew
      refine region_at (S := fun W => Below w3.heap.size w3 W) 24 rfl (by kernel_rfl) HS (fun hHeld => ?_)
      refine take_at (i := 0) 52 rfl rfl (by kernel_rfl) (by kernel_rfl) (by kernel_rfl) (fun _ _ _ h => h) (by rfl) (fun w hSw => by (have hSw2 := FA.out _ hSw; clear hSw; go_simp; first | done | exact rfl)) (by assumption) ?_
      simp only [List.setIfInBounds_toArray, List.set_cons_zero, List.set_cons_succ]
      refine take_at (i := 1) 53 rfl rfl (by kernel_rfl) (by kernel_rfl) (by kernel_rfl) (fun _ _ _ h => h) (by rfl) (fun w hSw => by (have hSw2 := FA.out _ hSw; clear hSw; go_simp; first | done | exact rfl)) (by assumption) ?_
      simp only [List.setIfInBounds_toArray, List.set_cons_zero, List.set_cons_succ]
      refine take_at (i := 2) 54 rfl rfl (by kernel_rfl) (by kernel_rfl) (by kernel_rfl) (fun _ _ _ h => h) (by rfl) (fun w hSw => by (have hSw2 := FA.out _ hSw; clear hSw; go_simp; first | done | exact rfl)) (by assumption) ?_
      simp only [List.setIfInBounds_toArray, List.set_cons_zero, List.set_cons_succ]
      refine take_at (i := 3) 55 rfl rfl (by kernel_rfl) (by kernel_rfl) (by kernel_rfl) (fun _ _ _ h => h) (by rfl) (fun w hSw => by (have hSw2 := FA.out _ hSw; clear hSw; go_simp; first | done | exact rfl)) (by assumption) ?_
      simp only [List.setIfInBounds_toArray, List.set_cons_zero, List.set_cons_succ]
      refine take_at (i := 4) 56 rfl rfl (by kernel_rfl) (by kernel_rfl) (by kernel_rfl) (fun _ _ _ h => h) (by rfl) (fun w hSw => by (have hSw2 := FA.out _ hSw; clear hSw; go_simp; first | done | exact rfl)) (by assumption) ?_
      simp only [List.setIfInBounds_toArray, List.set_cons_zero, List.set_cons_succ]
      refine take_at (i := 5) 57 rfl rfl (by kernel_rfl) (by kernel_rfl) (by kernel_rfl) (fun _ _ _ h => h) (by rfl) (fun w hSw => by (have hSw2 := FA.out _ hSw; clear hSw; go_simp; first | done | exact rfl)) (by assumption) ?_
      simp only [List.setIfInBounds_toArray, List.set_cons_zero, List.set_cons_succ]
      refine take_at (i := 6) 58 rfl rfl (by kernel_rfl) (by kernel_rfl) (by kernel_rfl) (fun _ _ _ h => h) (by rfl) (fun w hSw => by (have hSw2 := FA.out _ hSw; clear hSw; go_simp; first | done | exact rfl)) (by assumption) ?_
      simp only [List.setIfInBounds_toArray, List.set_cons_zero, List.set_cons_succ]
      refine take_at (i := 7) 59 rfl rfl (by kernel_rfl) (by kernel_rfl) (by kernel_rfl) (fun _ _ _ h => h) (by rfl) (fun w hSw => by (have hSw2 := FA.out _ hSw; clear hSw; go_simp; first | done | exact rfl)) (by assumption) ?_
      simp only [List.setIfInBounds_toArray, List.set_cons_zero, List.set_cons_succ]
      refine take_at (i := 8) 60 rfl rfl (by kernel_rfl) (by kernel_rfl) (by kernel_rfl) (fun _ _ _ h => h) (by rfl) (fun w hSw => by (have hSw2 := FA.out _ hSw; clear hSw; go_simp; first | done | exact rfl)) (by assumption) ?_
      simp only [List.setIfInBounds_toArray, List.set_cons_zero, List.set_cons_succ]
      refine take_at (i := 9) 61 rfl rfl (by kernel_rfl) (by kernel_rfl) (by kernel_rfl) (fun _ _ _ h => h) (by rfl) (fun w hSw => by (have hSw2 := FA.out _ hSw; clear hSw; go_simp; first | done | exact rfl)) (by assumption) ?_
      simp only [List.setIfInBounds_toArray, List.set_cons_zero, List.set_cons_succ]
      refine take_at (i := 10) 62 rfl rfl (by kernel_rfl) (by kernel_rfl) (by kernel_rfl) (fun _ _ _ h => h) (by rfl) (fun w hSw => by (have hSw2 := FA.out _ hSw; clear hSw; go_simp; first | done | exact rfl)) (by assumption) ?_
      simp only [List.setIfInBounds_toArray, List.set_cons_zero, List.set_cons_succ]
      refine take_at (i := 11) 63 rfl rfl (by kernel_rfl) (by kernel_rfl) (by kernel_rfl) (fun _ _ _ h => h) (by rfl) (fun w hSw => by (have hSw2 := FA.out _ hSw; clear hSw; go_simp; first | done | exact rfl)) (by assumption) ?_
      simp only [List.setIfInBounds_toArray, List.set_cons_zero, List.set_cons_succ]
      refine take_at (i := 12) 64 rfl rfl (by kernel_rfl) (by kernel_rfl) (by kernel_rfl) (fun _ _ _ h => h) (by rfl) (fun w hSw => by (have hSw2 := FA.out _ hSw; clear hSw; go_simp; first | done | exact rfl)) (by assumption) ?_
      simp only [List.setIfInBounds_toArray, List.set_cons_zero, List.set_cons_succ]
      refine take_at (i := 13) 65 rfl rfl (by kernel_rfl) (by kernel_rfl) (by kernel_rfl) (fun _ _ _ h => h) (by rfl) (fun w hSw => by (have hSw2 := FA.out _ hSw; clear hSw; go_simp; first | done | exact rfl)) (by assumption) ?_
      simp only [List.setIfInBounds_toArray, List.set_cons_zero, List.set_cons_succ]
      refine take_at (i := 14) 66 rfl rfl (by kernel_rfl) (by kernel_rfl) (by kernel_rfl) (fun _ _ _ h => h) (by rfl) (fun w hSw => by (have hSw2 := FA.out _ hSw; clear hSw; go_simp; first | done | exact rfl)) (by assumption) ?_
      simp only [List.setIfInBounds_toArray, List.set_cons_zero, List.set_cons_succ]
      refine take_at (i := 16) (v := rdV (rdOf d) (.slice ad n c)) 68 rfl rfl (by kernel_rfl) (by kernel_rfl) (by kernel_rfl) (fun _ _ _ h => h) (by rfl) (fun W hSw => ?_) (by assumption) ?_
      · refine (exec_load_D _ (.tmp 3) _ _ _ _ _ W).trans ?_
        show Result.andThen (loadD Try.prog (.pointer (some ⟨w.heap.size, 0, none⟩)) W) _ = _
        rw [(FA.out _ hSw).2.2]
        rfl
      simp only [List.setIfInBounds_toArray, List.set_cons_zero, List.set_cons_succ]
      refine take_at (i := 17) 69 rfl rfl (by kernel_rfl) (by kernel_rfl) (by kernel_rfl) (fun _ _ _ h => h) (by rfl) (fun w hSw => by (have hSw2 := FA.out _ hSw; clear hSw; go_simp; first | done | exact rfl)) (by assumption) ?_
      simp only [List.setIfInBounds_toArray, List.set_cons_zero, List.set_cons_succ]
      refine take_at (i := 18) 70 rfl rfl (by kernel_rfl) (by kernel_rfl) (by kernel_rfl) (fun _ _ _ h => h) (by rfl) (fun w hSw => by (have hSw2 := FA.out _ hSw; clear hSw; go_simp; first | done | exact rfl)) (by assumption) ?_
      simp only [List.setIfInBounds_toArray, List.set_cons_zero, List.set_cons_succ]
      refine take_at (i := 19) 71 rfl rfl (by kernel_rfl) (by kernel_rfl) (by kernel_rfl) (fun _ _ _ h => h) (by rfl) (fun w hSw => by (have hSw2 := FA.out _ hSw; clear hSw; go_simp; first | done | exact rfl)) (by assumption) ?_
      simp only [List.setIfInBounds_toArray, List.set_cons_zero, List.set_cons_succ]
      refine take_at (i := 20) 72 rfl rfl (by kernel_rfl) (by kernel_rfl) (by kernel_rfl) (fun _ _ _ h => h) (by rfl) (fun w hSw => by (have hSw2 := FA.out _ hSw; clear hSw; go_simp; first | done | exact rfl)) (by assumption) ?_
      simp only [List.setIfInBounds_toArray, List.set_cons_zero, List.set_cons_succ]
      refine one_call (i := 15) (w0 := wr.drew) 67 21 #[.pointer (some ⟨p, 0, none⟩), .int .u64 a] (by kernel_rfl) rfl rfl (by rfl) (by kernel_rfl) ?_
      refine (Sectors_any N p d fp a wr.drew (H3.out.below hHeld) HO.out).mono ?_
      rintro e w4 ⟨rfl, hb4⟩
      have hS4 : Below w3.heap.size w3 w4 := hHeld.trans (hb4.mono hHeld.size)
      refine ⟨_, rfl, hS4, fun _ => ?_⟩
      simp only [List.setIfInBounds_toArray, List.set_cons_zero, List.set_cons_succ]
      refine one_call (i := 21) (w0 := w4) 73 29 #[rdV (rdOf d) (.slice ad n c), .int .u64 a] (by kernel_rfl) rfl rfl (by rfl) (by kernel_rfl) ?_
      refine (refSectors_any P N d _ a w4 (R3.out.below hS4) HK.out hN HO.out).mono ?_
      rintro e w5 ⟨rfl, hb5⟩
      have hS5 : Below w3.heap.size w3 w5 := hS4.trans (hb5.mono hS4.size)
      refine ⟨_, rfl, hS5, fun _ => ?_⟩
      simp only [List.setIfInBounds_toArray, List.set_cons_zero, List.set_cons_succ]
      refine one_value (i := 22) (v := .bool false) (w' := w5) 74 (by kernel_rfl) rfl rfl (by rfl) (by go_simp; first | done | exact rfl) hS5 (fun _ => ?_)
      simp only [List.setIfInBounds_toArray, List.set_cons_zero, List.set_cons_succ]
      refine one_value (i := 23) (v := .bool false) (w' := w5) 75 (by kernel_rfl) rfl rfl (by rfl) (by go_simp; first | done | exact rfl) hS5 (fun _ => ?_)
      simp only [List.setIfInBounds_toArray, List.set_cons_zero, List.set_cons_succ]
      refine wpAnyH_done (by kernel_rfl) ?_ _
      have B5 : Hid (Below w3.heap.size w3 w5) := hS5
      obtain ⟨E, hE⟩ : ∃ E, endS a d.secs = E := ⟨_, rfl⟩
      have HEE : Hid (endS a d.secs = E) := hE
      rw [hE]
      have hE0 : 0 ≤ E ∧ E ≤ 16777216 := by
        rw [← hE]
        exact ⟨topS_nonneg _, topS_le _ _ (by omega) fun k hk => by
          obtain ⟨s, hs, rfl⟩ := List.mem_map.1 hk
          have := (HO.out s (List.mem_filter.1 hs).1).2
          omega⟩
      clear hHeld hS4 hb4 hb5 hS5 hE HS
      obtain ⟨M, hM⟩ : ∃ M, min E 40 = M := ⟨_, rfl⟩
      have hM1 : (if 40 < E then 40 else E) = M := by rw [← hM]; split <;> omega
      have hM2 : (if E < 40 then E else 40) = M := by rw [← hM]; split <;> omega
      have hM3 : 0 ≤ M ∧ M ≤ 40 := by omega
      have HM : Hid (min E 40 = M) := hM
      clear hM
      go_wp2_with fail
      go_loopw [8] (fun v wr => ∃ k : Nat, v = .int .i64 ((k : Int) - 1) ∧ (k : Int) ≤ M + 2 ∧ Below w3.heap.size w3 wr) (fun v _ => (60 - intOf v).toNat)
      case atStart => exact ⟨0, rfl, by omega, B5.out⟩
      case round =>
        obtain ⟨k, rfl, hk, hbr⟩ := hrel
        have BR : Hid (Below w3.heap.size w3 wr) := hbr
        obtain ⟨q5, q6, hldr⟩ := FA.out wr hbr
        have HR3 := H3.out.below hbr
        clear hbr
        go_wp2_with fail
        refine (Sectors_any N p d fp a wr HR3 HO.out).mono ?_
        rintro e w6 ⟨rfl, hb6⟩
        rw [HEE.out]
        have B6 : Hid (Below w3.heap.size w3 w6) := BR.out.trans (hb6.mono BR.out.size)
        clear q5 q6 hldr hb6 HR3
        obtain ⟨q5, q6, hldr⟩ := FA.out w6 B6.out
        by_cases hkM : (k : Int) - 1 ≤ M
        · go_wp2_with fail
          refine (Read_any N p d fp a ((k : Int) - 1) w6 (H3.out.below B6.out) (by omega)).mono ?_
          rintro e w7 ⟨hb7, hcase⟩
          have B7 : Below w3.heap.size w3 w7 := B6.out.trans (hb7.mono B6.out.size)
          have HB7 : Hid (Below w3.heap.size w3 w7) := B7
          obtain ⟨o, ho⟩ : ∃ o, curOf d.secs a ((k : Int) - 1) = o := ⟨_, rfl⟩
          rw [ho] at hcase
          obtain ⟨xv, yv, bq, hret, hyv, hcv⟩ : ∃ (xv : Value) (ys : ByteArray) (bq : Bool), e = .returned (.tuple #[xv, .bool bq]) ∧ readV o = .tuple #[.string ys, .bool bq] ∧ ∀ W, Below w7.heap.size w7 W → (convert 32 9 xv).run Try.prog W = .ok (.string ys) W := by
            rcases hcase with ⟨rfl, he⟩ | ⟨v, b, rfl, hv, he, hbb, hblk⟩
            · exact ⟨_, _, _, he, rfl, fun W _ => conv_nil W⟩
            · exact ⟨_, _, _, he, rfl, fun W hW => conv_ver ((hW.block b (Array.getElem?_eq_some_iff.1 hblk).1).trans hblk) hv⟩
          subst hret
          have HCV : Hid (∀ W, Below w7.heap.size w7 W → (convert 32 9 xv).run Try.prog W = .ok (.string yv) W) := hcv
          have HYV : Hid (readV (curOf d.secs a ((k : Int) - 1)) = .tuple #[.string yv, .bool bq]) := by show _ = _; rw [ho, hyv]
          clear hb7 hcase hcv hyv ho q5 q6 hldr B7
          go_wp2_with fail
          have HS : Below w7.heap.size w7 w7.drew := (Below.refl _ w7).drew
          have FB : Hid (∀ W, Below w7.heap.size w7 W → W.cell? ⟨g5, i, none⟩ = some (.int .u64 a) ∧ W.cell? ⟨g6, i, none⟩ = some (.int .u64 a) ∧ loadD Try.prog (.pointer (some ⟨w.heap.size, 0, none⟩)) W = .ok (rdV (rdOf d) (.slice ad n c)) W) := fun W hW => FA.out W (HB7.out.trans (hW.mono HB7.out.size))
          refine region_at (S := fun W => Below w7.heap.size w7 W) 12 rfl (by kernel_rfl) HS (fun hHeld => ?_)
          refine take_at (i := 0) (v := rdV (rdOf d) (.slice ad n c)) 98 rfl rfl (by kernel_rfl) (by kernel_rfl) (by kernel_rfl) (fun _ _ _ h => h) (by rfl) (fun W hSw => ?_) (by assumption) ?_
          · refine (exec_load_D _ (.tmp 3) _ _ _ _ _ W).trans ?_
            show Result.andThen (loadD Try.prog (.pointer (some ⟨w.heap.size, 0, none⟩)) W) _ = _
            rw [(FB.out _ hSw).2.2]
            rfl
          simp only [List.setIfInBounds_toArray, List.set_cons_zero, List.set_cons_succ]
          refine take_at (i := 1) 99 rfl rfl (by kernel_rfl) (by kernel_rfl) (by kernel_rfl) (fun _ _ _ h => h) (by rfl) (fun w hSw => by (have hSw2 := FB.out _ hSw; clear hSw; go_simp; first | done | exact rfl)) (by assumption) ?_
          simp only [List.setIfInBounds_toArray, List.set_cons_zero, List.set_cons_succ]
          refine take_at (i := 2) 100 rfl rfl (by kernel_rfl) (by kernel_rfl) (by kernel_rfl) (fun _ _ _ h => h) (by rfl) (fun w hSw => by (have hSw2 := FB.out _ hSw; clear hSw; go_simp; first | done | exact rfl)) (by assumption) ?_
          simp only [List.setIfInBounds_toArray, List.set_cons_zero, List.set_cons_succ]
          refine take_at (i := 3) 101 rfl rfl (by kernel_rfl) (by kernel_rfl) (by kernel_rfl) (fun _ _ _ h => h) (by rfl) (fun w hSw => by (have hSw2 := FB.out _ hSw; clear hSw; go_simp; first | done | exact rfl)) (by assumption) ?_
          simp only [List.setIfInBounds_toArray, List.set_cons_zero, List.set_cons_succ]
          refine take_at (i := 4) 102 rfl rfl (by kernel_rfl) (by kernel_rfl) (by kernel_rfl) (fun _ _ _ h => h) (by rfl) (fun w hSw => by (have hSw2 := FB.out _ hSw; clear hSw; go_simp; first | done | exact rfl)) (by assumption) ?_
          simp only [List.setIfInBounds_toArray, List.set_cons_zero, List.set_cons_succ]
          refine take_at (i := 5) 103 rfl rfl (by kernel_rfl) (by kernel_rfl) (by kernel_rfl) (fun _ _ _ h => h) (by rfl) (fun w hSw => by (have hSw2 := FB.out _ hSw; clear hSw; go_simp; first | done | exact rfl)) (by assumption) ?_
          simp only [List.setIfInBounds_toArray, List.set_cons_zero, List.set_cons_succ]
          refine one_call (i := 6) (w0 := w7.drew) 104 30 #[rdV (rdOf d) (.slice ad n c), .int .u64 a, .int .i64 ((k : Int) - 1)] (by kernel_rfl) rfl rfl (by rfl) (by kernel_rfl) ?_
          refine (refRead_any P N d _ a ((k : Int) - 1) w7.drew (R3.out.below (HB7.out.trans (hHeld.mono HB7.out.size))) HK.out hN).mono ?_
          rintro e w8 ⟨rfl, hb8⟩
          have hS8 : Below w7.heap.size w7 w8 := hHeld.trans (hb8.mono hHeld.size)
          rw [HYV.out]
          refine ⟨_, rfl, hS8, fun _ => ?_⟩
          simp only [List.setIfInBounds_toArray, List.set_cons_zero, List.set_cons_succ]
          refine one_value (i := 7) (v := .tuple #[.string yv, .bool bq]) (w' := w8) 97 (by kernel_rfl) rfl rfl (by rfl) (by kernel_rfl) hS8 (fun _ => ?_)
          simp only [List.setIfInBounds_toArray, List.set_cons_zero, List.set_cons_succ]
          refine take_at (i := 8) 105 rfl rfl (by kernel_rfl) (by kernel_rfl) (by kernel_rfl) (fun _ _ _ h => h) (by rfl) (fun w hSw => by (have hSw2 := FB.out _ hSw; clear hSw; go_simp; first | done | exact rfl)) (by assumption) ?_
          simp only [List.setIfInBounds_toArray, List.set_cons_zero, List.set_cons_succ]
          refine take_at (i := 9) 106 rfl rfl (by kernel_rfl) (by kernel_rfl) (by kernel_rfl) (fun _ _ _ h => h) (by rfl) (fun w hSw => by (have hSw2 := FB.out _ hSw; clear hSw; go_simp; first | done | exact rfl)) (by assumption) ?_
          simp only [List.setIfInBounds_toArray, List.set_cons_zero, List.set_cons_succ]
          refine one_value (i := 10) (v := .string yv) (w' := w8) 11 (by kernel_rfl) rfl rfl (by rfl) (by kernel_rfl) hS8 (fun _ => ?_)
          simp only [List.setIfInBounds_toArray, List.set_cons_zero, List.set_cons_succ]
          refine one_value (i := 11) (v := .bool bq) (w' := w8) 12 (by kernel_rfl) rfl rfl (by rfl) (by kernel_rfl) hS8 (fun _ => ?_)
          simp only [List.setIfInBounds_toArray, List.set_cons_zero, List.set_cons_succ]
          refine wpAnyH_done (by kernel_rfl) ?_ _
          have hcv8 := HCV.out w8 hS8
          have B8 : Hid (Below w3.heap.size w3 w8) := HB7.out.trans (hS8.mono HB7.out.size)
          clear hHeld hb8 hS8 HS
          go_wp2_with fail
          go_roundw
          case rel => exact ⟨k + 1, by go_num, by omega, B8.out⟩
          case measure => simp [intOf]; omega
        · go_wp2_with fail
          go_roundw
          case rel => exact ⟨i + 1, by go_num, by omega, B6.out⟩
          case measure => simp [intOf]; omega
    · have hxn : ¬ ((i : Int) < (A.length : Int)) := by omega
      obtain ⟨d0, d1, d2, d3, d4, d5, dz⟩ := (D3.out.below hs3 BR.out).cells
      obtain ⟨l, X, el, hSX, hX⟩ := R3.out
      have el' : l = .slice ad n c := by
        have := congrArg (fun v => match v with | .agg a => a[5]? | _ => none) el
        simpa [rdV] using this.symm
      subst el'
      obtain ⟨_, _, eX, hXl, hcs, hok⟩ := id hSX
      simp only [Value.slice.injEq] at eX
      obtain ⟨rfl, rfl, rfl⟩ := eX
      have HSX : Hid (SecRow P w3 (.slice ad X.length c) X) := hSX
      have HXX : Hid (X.map RX.s = d.secs.map toRS) := hX
      clear d0 d1 d2 d3 d4 el hcs hok hSX hX
      go_wp2_with fail
      go_loopw [120] (fun v wr => ∃ i : Nat, v = .int .i64 i ∧ i ≤ X.length ∧ Below w3.heap.size w3 wr) (fun v _ => X.length - (intOf v).toNat)
      case atStart => exact ⟨0, rfl, Nat.zero_le _, BR.out⟩
      case round =>
        obtain ⟨j, rfl, hj, hbr⟩ := hrel
        have BQ : Hid (Below w3.heap.size w3 wr) := hbr
        clear hbr
        by_cases hjn : j < X.length
        · obtain ⟨_, _, eX, _, hcs, hok⟩ := id HSX.out
          obtain ⟨g, hg0, _, hg, hx4⟩ := hcs (by omega)
          simp only [Value.slice.injEq] at eX
          rw [← eX.1] at hg0
          subst hg0
          obtain ⟨x, hx⟩ : ∃ x, X[j]? = some x := ⟨_, List.getElem?_eq_getElem hjn⟩
          obtain ⟨x0, x1, x2, x3⟩ := (hx4 j x hx).below hg BQ.out
          have hxm := List.mem_of_getElem? hx
          have HXO : Hid (x.ok P w3) := hok x hxm
          obtain ⟨⟨xh, xc, exl, _, _, _⟩, _⟩ := id (hok x hxm)
          rw [exl] at x2
          have HV : Hid (x.val = .agg #[.int .u64 x.s.area, .int .i64 x.s.n, .slice (some ⟨xh, 0, none⟩) x.s.vs.length xc, .bool x.s.sy]) := by show _ = _; unfold RX.val; rw [exl]
          obtain ⟨u, hu⟩ : ∃ u, x.s.vs.getLastD [] = u := ⟨_, rfl⟩
          have HU : Hid (x.s.vs.getLastD [] = u) := hu
          have HC : Hid (curOf d.secs x.s.area x.s.n = some u) := by
            obtain ⟨s, h1, h2⟩ := is_find HK.out.sorted HXX.out hxm
            show _ = _
            rw [curOf, h1, Option.bind_some, cur_last s (HK.out.there s (findS_mem h1)), h2, hu]
          have hjl : (j : Int) < (X.length : Int) := by omega
          clear hcs hok hx4 eX hxm hx exl hu
          go_wp2_with fail
          obtain ⟨wx, hwx⟩ : ∃ wx, wr.alloc (.cells #[.int .u64 x.s.area, .int .i64 x.s.n, .slice (some ⟨xh, 0, none⟩) x.s.vs.length xc, .bool x.s.sy] 69) = wx := ⟨_, rfl⟩
          rw [hwx]
          have hbx : wx.heap[wr.heap.size]? = some (.cells #[.int .u64 x.s.area, .int .i64 x.s.n, .slice (some ⟨xh, 0, none⟩) x.s.vs.length xc, .bool x.s.sy] 69 (0, 0)) := hwx ▸ alloc_new _ _
          have hsx : wx.heap.size = wr.heap.size + 1 := by rw [← hwx]; simp
          have BX : Hid (Below w3.heap.size w3 wx) := hwx ▸ BQ.out.alloc BQ.out.size _
          clear hwx
          refine (Read_any N p d fp x.s.area x.s.n wx (H3.out.below BX.out) (by omega)).mono ?_
          rintro e w7 ⟨hb7, hcase⟩
          rw [HC.out] at hcase
          rcases hcase with ⟨h, _⟩ | ⟨v, b, hv1, hv, rfl, hbb, hblk⟩
          · cases h
          obtain rfl := Option.some.inj hv1
          have B7 : Hid (Below w3.heap.size w3 w7) := BX.out.trans (hb7.mono BX.out.size)
          have FC : Hid (∀ W, Below w7.heap.size w7 W → (convert 32 9 (.slice (some ⟨b, 0, none⟩) 64 64)).run Try.prog W = .ok (.string (strB u)) W ∧ W.cell? ⟨wr.heap.size, 0, none⟩ = some (.int .u64 x.s.area) ∧ W.cell? ⟨wr.heap.size, 1, none⟩ = some (.int .i64 x.s.n) ∧ W.cell? ⟨wr.heap.size, 2, none⟩ = some (.slice (some ⟨xh, 0, none⟩) x.s.vs.length xc) ∧ W.cell? ⟨wr.heap.size, 3, none⟩ = some (.bool x.s.sy)) := fun W hW => by
            obtain ⟨f0, f1, f2, f3, _⟩ := four_cells ((hW.block wr.heap.size (by have := hb7.size; omega)).trans ((hb7.block wr.heap.size (by omega)).trans hbx))
            exact ⟨conv_ver ((hW.block b (Array.getElem?_eq_some_iff.1 hblk).1).trans hblk) hv, f0, f1, f2, f3⟩
          clear hb7 hbx hbb hblk hv hv1 x0 x1 x2 x3
          go_wp2_with fail
          have HS : Below w7.heap.size w7 w7.drew := (Below.refl _ w7).drew
          refine region_at (S := fun W => Below w7.heap.size w7 W) 9 rfl (by kernel_rfl) HS (fun hHeld => ?_)
          refine take_at (i := 0) 133 rfl rfl (by kernel_rfl) (by kernel_rfl) (by kernel_rfl) (fun _ _ _ h => h) (by rfl) (fun w hSw => by (have hSw2 := FC.out _ hSw; clear hSw; go_simp; first | done | exact rfl)) (by assumption) ?_
          simp only [List.setIfInBounds_toArray, List.set_cons_zero, List.set_cons_succ]
          refine take_at (i := 1) 134 rfl rfl (by kernel_rfl) (by kernel_rfl) (by kernel_rfl) (fun _ _ _ h => h) (by rfl) (fun w hSw => by (have hSw2 := FC.out _ hSw; clear hSw; go_simp; first | done | exact rfl)) (by assumption) ?_
          simp only [List.setIfInBounds_toArray, List.set_cons_zero, List.set_cons_succ]
          refine take_at (i := 2) 135 rfl rfl (by kernel_rfl) (by kernel_rfl) (by kernel_rfl) (fun _ _ _ h => h) (by rfl) (fun w hSw => by (have hSw2 := FC.out _ hSw; clear hSw; go_simp; first | done | exact rfl)) (by assumption) ?_
          simp only [List.setIfInBounds_toArray, List.set_cons_zero, List.set_cons_succ]
          refine take_at (i := 3) 136 rfl rfl (by kernel_rfl) (by kernel_rfl) (by kernel_rfl) (fun _ _ _ h => h) (by rfl) (fun w hSw => by (have hSw2 := FC.out _ hSw; clear hSw; go_simp; first | done | exact rfl)) (by assumption) ?_
          simp only [List.setIfInBounds_toArray, List.set_cons_zero, List.set_cons_succ]
          refine take_at (i := 4) 137 rfl rfl (by kernel_rfl) (by kernel_rfl) (by kernel_rfl) (fun _ _ _ h => h) (by rfl) (fun w hSw => by (have hSw2 := FC.out _ hSw; clear hSw; go_simp; first | done | exact rfl)) (by assumption) ?_
          simp only [List.setIfInBounds_toArray, List.set_cons_zero, List.set_cons_succ]
          refine take_at (i := 5) 138 rfl rfl (by kernel_rfl) (by kernel_rfl) (by kernel_rfl) (fun _ _ _ h => h) (by rfl) (fun w hSw => by (have hSw2 := FC.out _ hSw; clear hSw; go_simp; first | done | exact rfl)) (by assumption) ?_
          simp only [List.setIfInBounds_toArray, List.set_cons_zero, List.set_cons_succ]
          refine one_call (i := 6) (w0 := w7.drew) 139 31 #[.agg #[.int .u64 x.s.area, .int .i64 x.s.n, .slice (some ⟨xh, 0, none⟩) x.s.vs.length xc, .bool x.s.sy]] (by kernel_rfl) rfl rfl (by rfl) (by kernel_rfl) ?_
          have hLast := refLast_rx x w7.drew (HXO.out.below (B7.out.trans (hHeld.mono B7.out.size)))
          rw [HV.out, HU.out] at hLast
          refine hLast.mono ?_
          rintro e w8 ⟨rfl, hb8⟩
          have hS8 : Below w7.heap.size w7 w8 := hHeld.trans (hb8.mono hHeld.size)
          refine ⟨_, rfl, hS8, fun _ => ?_⟩
          simp only [List.setIfInBounds_toArray, List.set_cons_zero, List.set_cons_succ]
          refine one_value (i := 7) (v := .bool false) (w' := w8) 140 (by kernel_rfl) rfl rfl (by rfl) (by go_simp; first | done | exact rfl) hS8 (fun _ => ?_)
          simp only [List.setIfInBounds_toArray, List.set_cons_zero, List.set_cons_succ]
          refine one_value (i := 8) (v := .bool false) (w' := w8) 141 (by kernel_rfl) rfl rfl (by rfl) (by go_simp; first | done | exact rfl) hS8 (fun _ => ?_)
          simp only [List.setIfInBounds_toArray, List.set_cons_zero, List.set_cons_succ]
          refine wpAnyH_done (by kernel_rfl) ?_ _
          have B8 : Hid (Below w3.heap.size w3 w8) := B7.out.trans (hS8.mono B7.out.size)
          clear hHeld hb8 hS8 HS hLast
          go_wp2_with fail
          go_roundw
          case rel => exact ⟨j + 1, by go_num, by omega, B8.out⟩
          case measure => simp [intOf]; omega
        · have hjn' : ¬ ((j : Int) < (X.length : Int)) := by omega
          go_wp2_with fail
          go_ret
          exact ⟨rfl, B3.out.trans (BQ.out.mono (by omega))⟩
end Go.Proofs.Ythdclljacdcolaa
