/- Texts that were written apart, joined. -/
import Derived.Test.YthecngkdmnadoaaGreatG10
import Derived.Handy
import Derived.Lib.SlKeysI
import Derived.Test.YthecngkdmnadoaaGreatG13
import Derived.Test.YthecngkdmnadoaaGreatSync
import Derived.Test.YthecngkdmnadoaaGreatDrawn
/- maps.Keys at map[uint64]map[int][]disk.version: the function that it hands back gives the keys, each once. -/
namespace Go.Proofs.YthecngkdmnadoaaGreat
open Go.RowKit Go.Shelf
set_option maxRecDepth 100000
attribute [local go_sem] Oper.semAt_some
namespace IterF

set_option maxHeartbeats 4000000 in
theorem keys1_stops {α : Type} {f : α → Value} {m : List (Int × α)} {bo : Option Nat} (F : Fence) (n : Nat) (hf : F.fn 92) (hro : F.round = none) (hn : 1 ≤ n) (Bm : Nat) (w : World) (hBm : Bm < w.heap.size)
    (hc : w.cell? ⟨Bm, 0, none⟩ = some (.map bo)) (hm : (keys m).Nodup)
    (hr : ∀ W, Below w.heap.size w W → ∃ ob, (Instr.range 71 (.map bo)).run Tryz.prog W = .ok (.pointer (some ⟨W.heap.size, 0, none⟩)) (W.alloc ob) ∧ Ranges .u64 f (W.alloc ob) bo W.heap.size m []) :
    SeqStopsK F n Tryz.prog 92 #[.pointer (some ⟨Bm, 0, none⟩)] (fun x : Int => #[.int .u64 x]) KeepsWalks (fun xs => xs.Perm (keys m)) (fun _ => True) m.length w := by
  intro l J Jx W hW hJ hJx hY h0
  have hcW : W.cell? ⟨Bm, 0, none⟩ = some (.map bo) := (World.cell?_of_block (a := ⟨Bm, 0, none⟩) (hW.block Bm hBm)).trans hc
  have hrW := hr W hW
  have HY : Hid (∀ pre x W1, J pre W1 → pre.length < m.length → YieldAt F (n - 1) Tryz.prog l #[.int .u64 x] W1 fun e W' => (e = .returned (.bool true) ∧ J (pre ++ [x]) W' ∧ KeepsWalks W1 W') ∨ (e = .returned (.bool false) ∧ Jx (pre ++ [x]) W')) := hY
  clear hY hr hc
  refine callsIn_of_wp Tryz.func92 rfl hf ?_ hro
  simp only [Tryz.ntmps92, List.size_toArray, List.length_cons, List.length_nil, Nat.reduceAdd, Nat.reduceSub, Array.replicate_succ, Array.replicate_zero, List.push_toArray, List.append_toArray, List.nil_append, List.cons_append]
  gi_wp2_with (first
    | (gi_at_range; refine wpListIn_range_at hrW rfl _ rfl rfl ?_; intro ob hR0)
    | gi_in)
  go_frame
  gi_loopw [3] (fun _ wr => ∃ done : List (Int × α), Ranges .u64 f wr bo W.heap.size m done ∧ J (keys done) wr) (fun _ wr => m.length - seenAt wr W.heap.size)
  case atStart => exact ⟨[], hR0, hJ [] W _ none h0 (World.grownBy_alloc W ob none) (fun r e => by cases e)⟩
  case round =>
    obtain ⟨done, hR, hJs⟩ := hrel
    gi_wp2_with (first
      | (gi_at_next; refine wpListIn_next_at hR rfl _ rfl rfl ?_ ?_)
      | gi_in)
    · intro hall
      gi_wp2
      go_end0
      exact ⟨⟨_, rfl⟩, .inl ⟨keys done, hR.perm hall hm, hJs⟩⟩
    · intro k v w2 hmem hnk hR2 hone hen
      have hJ2 : J (keys done) w2 := hJ (keys done) wr w2 (some W.heap.size) hJs hone.grown (fun r e => by cases e; exact ⟨Nat.le_refl _, hR.iter_walk⟩)
      have hs1 := hR.seen
      have hs2 := hR2.seen
      have hlen : (keys done).length < m.length := by have := hs2.2.1; simp [keys] at this ⊢; omega
      obtain ⟨fn, tmps, assign, body, hy, hRr⟩ := HY.out (keys done) k w2 hJ2 hlen
      have HS1 : Hid (seenAt wr W.heap.size = done.length ∧ done.length < m.length) := ⟨hs1.1, by simpa [keys] using hlen⟩
      clear hs1 hs2 hlen
      gi_wp2
      refine hRr.mono ?_
      rintro e W3 (⟨rfl, hJ3, hk3⟩ | ⟨rfl, hJ3⟩)
      · gi_wp2
        have hR3 := hR2.walks hk3
        go_roundw
        case rel => exact ⟨done ++ [(k, v)], hR3, by simpa [keys] using hJ3⟩
        case measure =>
          have := hR3.seen.1
          have h1 := HS1.out
          rw [this, h1.1]
          simp
          omega
      · gi_wp2
        go_returns
        exact ⟨⟨_, rfl⟩, .inr ⟨_, trivial, hJ3⟩⟩
set_option maxHeartbeats 1000000 in
theorem Keys_any (bo : Option Nat) (w : World) : Calls Tryz.prog 70 #[.map bo] w fun e w' => e = .returned (.func (.func 92) #[] #[.pointer (some ⟨w.heap.size, 0, none⟩)]) ∧ w' = w.alloc (.cells #[.map bo] 71) := by
  go_enter Tryz.func70, Tryz.ntmps70
  go_wp2
  go_ret
  exact ⟨rfl, rfl⟩
end IterF
end Go.Proofs.YthecngkdmnadoaaGreat

/- The keys of map[uint64]map[int][]disk.version, rising. -/
namespace Go.Proofs.YthecngkdmnadoaaGreat
open Go.RowKit Go.Shelf
set_option maxRecDepth 100000
namespace IterF

set_option maxHeartbeats 4000000 in
theorem rising_any {α : Type} {f : α → Value} {m : List (Int × α)} {bo : Option Nat} (w : World) (hm : (keys m).Nodup) (hl : m.length < 1099511627776)
    (hr : ∀ W, Below w.heap.size w W → ∃ ob, (Instr.range 71 (.map bo)).run Tryz.prog W = .ok (.pointer (some ⟨W.heap.size, 0, none⟩)) (W.alloc ob) ∧ Ranges .u64 f (W.alloc ob) bo W.heap.size m []) :
    Calls Tryz.prog 44 #[.map bo] w fun e w' => ∃ v, e = .returned v ∧ w'.ownsRow w.heap.size 22 1 v m.length ((SrtU.sorted (keys m)).map (Value.int .u64)) ∧ (v = .slice none 0 0 ↔ m = []) ∧ Below w.heap.size w w' := by
  have hB : Below w.heap.size w (w.alloc (.cells #[.map bo] 71)) := (Below.refl _ w).alloc (Nat.le_refl _) _
  have hst := keys1_stops (f := f) (m := m) (bo := bo) Fence.wide 2 trivial rfl (by omega) w.heap.size (w.alloc (.cells #[.map bo] 71)) (by simp) (by go_simp) hm (fun W hW => hr W (hB.trans (hW.mono hB.size)))
  have HC : Hid (Calls Tryz.prog 69 #[.func (.func 92) #[] #[.pointer (some ⟨w.heap.size, 0, none⟩)]] (w.alloc (.cells #[.map bo] 71)) fun e w' => ∃ v xs, e = .returned v ∧ xs.Perm (keys m) ∧ w'.ownsRow (w.alloc (.cells #[.map bo] 71)).heap.size 22 1 v xs.length ((SrtU.sorted xs).map (Value.int .u64)) ∧ (v = .slice none 0 0 ↔ xs = []) ∧ Below (w.alloc (.cells #[.map bo] 71)).heap.size (w.alloc (.cells #[.map bo] 71)) w') :=
    SrtU.Sorted_any 92 _ (enters_of Tryz.func92 (by kernel_rfl) rfl) _ hst hl (fun xs h => by rw [h.length_eq]; simp [keys])
  clear hr hst
  have HB : Hid (Below w.heap.size w (w.alloc (.cells #[.map bo] 71))) := hB
  clear hB
  go_enter Tryz.func44, Tryz.ntmps44
  go_wp2_with (first | (go_at_call 70; refine (Keys_any bo _).mono ?_; rintro e w1 ⟨rfl, rfl⟩) | (go_at_call 69; refine HC.out.mono ?_; rintro e w2 ⟨v, xs, rfl, h1, h2, h3, h4⟩))
  go_ret
  have hlen : xs.length = m.length := by rw [h1.length_eq]; simp [keys]
  have hso : SrtU.sorted xs = SrtU.sorted (keys m) := mergeSort_of_perm_i h1
  rw [hlen, hso] at h2
  refine ⟨v, rfl, ?_, ?_, HB.out.trans (h4.mono HB.out.size)⟩
  · obtain ⟨g1, g2⟩ := h2
    refine ⟨g1, g2.imp id ?_⟩
    rintro ⟨g, cap, cur, k1, k2, k3⟩
    exact ⟨g, cap, cur, k1, Nat.le_trans HB.out.size k2, k3⟩
  · rw [h3]
    constructor
    · intro hx
      subst hx
      exact List.eq_nil_of_length_eq_zero hlen.symm
    · intro hx
      subst hx
      exact List.eq_nil_of_length_eq_zero hlen
end IterF
end Go.Proofs.YthecngkdmnadoaaGreat

/- The areas with sectors, rising: the first region. -/
namespace Go.Proofs.YthecngkdmnadoaaGreat
open Go.RowKit Go.Sort Go.Lib
set_option maxRecDepth 100000

/-- The areas with sectors, rising. -/
def areasS (S : List Sec) : List Int := Lib.compact (S.map (·.area))
def SA (p lb fb : Nat) (W : World) : Prop := W.cell? ⟨p, 6, none⟩ = some (.map (some lb)) ∧ W.cell? ⟨p, 7, none⟩ = some (.map (some fb))
theorem SA.facts {p lb fb : Nat} {W : World} (h : SA p lb fb W) : W.cell? ⟨p, 6, none⟩ = some (.map (some lb)) ∧ W.cell? ⟨p, 7, none⟩ = some (.map (some fb)) := h
theorem SA.below {p lb fb : Nat} {w W : World} (h : SA p lb fb w) (hp : p < w.heap.size) (hb : Below w.heap.size w W) : SA p lb fb W := ⟨(hb.cell (p := ⟨p, 6, none⟩) hp).trans h.1, (hb.cell (p := ⟨p, 7, none⟩) hp).trans h.2⟩
theorem area_of_find {S : List Sec} {a n : Int} (h : (findS a n S).isSome = true) : a ∈ S.map (·.area) := by
  obtain ⟨s, hs⟩ := Option.isSome_iff_exists.1 h
  exact List.mem_map.2 ⟨s, findS_mem hs, (findS_at hs).1⟩
theorem areas_iff {w : World} {sh : Sh} {S : List Sec} (h : Held w sh) (hr : Rep sh S) (a : Int) : a ∈ S.map (·.area) ↔ a ∈ keys sh.L ∨ a ∈ keys sh.F := by
  constructor
  · intro ha
    obtain ⟨s, hs, rfl⟩ := List.mem_map.1 ha
    have hf := findS_self hr.sorted hs
    rcases (find_in_maps h hr s.area s.n).1 (by rw [hf]; rfl) with h1 | h1
    · left
      rw [mem_keys]
      cases hm : mget s.area sh.L with
      | none => simp [inL, hm, keys] at h1
      | some x => rfl
    · right
      rw [mem_keys]
      cases hm : mget s.area sh.F with
      | none => simp [inF, hm, keys] at h1
      | some x => rfl
  · rintro (ha | ha)
    · obtain ⟨p, hp, rfl⟩ := List.mem_map.1 ha
      obtain ⟨h1, h2, h3⟩ := h.hli p hp
      obtain ⟨q, hq⟩ := List.exists_mem_of_ne_nil _ h3
      refine area_of_find (n := q.1) ((find_in_maps h hr p.1 q.1).2 (.inl ?_))
      rw [inL, mget_of_mem (k := p.1) (v := p.2) h.hl.nodup hp]
      exact List.mem_map.2 ⟨q, hq, rfl⟩
    · obtain ⟨p, hp, rfl⟩ := List.mem_map.1 ha
      obtain ⟨h1, h2, h3⟩ := h.hfi p hp
      obtain ⟨q, hq⟩ := List.exists_mem_of_ne_nil _ h3
      refine area_of_find (n := q.1) ((find_in_maps h hr p.1 q.1).2 (.inr ?_))
      rw [inF, mget_of_mem (k := p.1) (v := p.2) h.hf.nodup hp]
      exact List.mem_map.2 ⟨q, hq, rfl⟩
theorem len_areas {w : World} {sh : Sh} {S : List Sec} (h : Held w sh) (hr : Rep sh S) : sh.L.length ≤ S.length ∧ sh.F.length ≤ S.length := by
  have h1 := nodup_len_le (keys sh.L) (S.map (·.area)) h.hl.nodup fun a ha => (areas_iff h hr a).2 (.inl ha)
  have h2 := nodup_len_le (keys sh.F) (S.map (·.area)) h.hf.nodup fun a ha => (areas_iff h hr a).2 (.inr ha)
  simp [keys] at h1 h2
  exact ⟨h1, h2⟩
theorem mem_sorted (xs : List Int) (x : Int) : x ∈ SrtU.sorted xs ↔ x ∈ xs := (List.mergeSort_perm xs _).mem_iff
theorem sorted_le (xs : List Int) : (SrtU.sorted xs).Pairwise (· ≤ ·) := by
  have := List.pairwise_mergeSort (le := fun x y : Int => decide (x ≤ y)) (fun a b c h1 h2 => by simp only [decide_eq_true_eq] at *; omega) (fun a b => by simp only [Bool.or_eq_true, decide_eq_true_eq]; omega) xs
  exact this.imp fun h => by simpa using h
theorem up_of_pairwise {xs : List Int} (h : xs.Pairwise (· ≤ ·)) : ∀ i j, i < j → j < xs.toArray.size → xs.toArray[i]! ≤ xs.toArray[j]! := by
  intro i j hij hj
  have hj' : j < xs.length := by simpa using hj
  have := List.pairwise_iff_getElem.1 h i j (by omega) hj' hij
  simpa [hj', show i < xs.length by omega] using this
/-- What Areas hands back. -/
theorem areas_eq {w : World} {sh : Sh} {S : List Sec} (h : Held w sh) (hr : Rep sh S) :
    compactUpTo (SrtU.sorted (SrtU.sorted (keys sh.L) ++ SrtU.sorted (keys sh.F))).toArray (SrtU.sorted (SrtU.sorted (keys sh.L) ++ SrtU.sorted (keys sh.F))).toArray.size = areasS S := by
  obtain ⟨a1, a2⟩ := compact_up _ (up_of_pairwise (sorted_le (SrtU.sorted (keys sh.L) ++ SrtU.sorted (keys sh.F)))) _ (Nat.le_refl _)
  have hs : (S.map (·.area)).Pairwise (· ≤ ·) := by
    rw [List.pairwise_map]
    exact hr.sorted.imp fun h => by unfold Sec.before at h; omega
  obtain ⟨b1, b2⟩ := compact_up _ (up_of_pairwise hs) _ (Nat.le_refl _)
  have mem : ∀ (zs : List Int) (x : Int), (∃ j, j < zs.toArray.size ∧ x = zs.toArray[j]!) ↔ x ∈ zs := by
    intro zs x
    constructor
    · rintro ⟨j, hj, rfl⟩
      have hj' : j < zs.length := by simpa using hj
      simp [hj']
    · intro hx
      obtain ⟨j, hj, rfl⟩ := List.getElem_of_mem hx
      exact ⟨j, by simpa using hj, by simp [hj]⟩
  have e : areasS S = compactUpTo (S.map (·.area)).toArray (S.map (·.area)).toArray.size := by
    rw [areasS, Lib.compact]; simp
  rw [e]
  refine rising_eq a2 b2 fun x => ?_
  rw [a1, b1, mem, mem, mem_sorted, List.mem_append, mem_sorted, mem_sorted, areas_iff h hr]
end Go.Proofs.YthecngkdmnadoaaGreat

/- The areas with sectors, rising: the walk. -/
namespace Go.Proofs.YthecngkdmnadoaaGreat
open Go.RowKit Go.Sort Go.Lib
set_option maxRecDepth 100000

theorem held_below {w W : World} {sh : Sh} (h : Held w sh) (hb : Below w.heap.size w W) : Held W sh := h.same fun b hb2 => hb.block b (h.lt b hb2)
theorem riseL {w : World} {sh : Sh} (h : Held w sh) (hl : sh.L.length < 1099511627776) :
    Calls Tryz.prog 62 #[.map (some sh.lb)] w fun e w' => ∃ v, e = .returned v ∧ NumRow w' v (SrtU.sorted (keys sh.L)) ∧ Below w.heap.size w w' := by
  refine (IterL.rising_any (f := inV) (m := sh.L) (bo := some sh.lb) w h.hl.nodup hl (fun W hW => (held_below h hW).hl.range Tryz.underlying70)).mono ?_
  rintro e w' ⟨v, rfl, h1, h2, h3⟩
  exact ⟨v, rfl, NumRow.of_own h1, h3⟩
theorem riseF {w : World} {sh : Sh} (h : Held w sh) (hl : sh.F.length < 1099511627776) :
    Calls Tryz.prog 44 #[.map (some sh.fb)] w fun e w' => ∃ v, e = .returned v ∧ NumRow w' v (SrtU.sorted (keys sh.F)) ∧ Below w.heap.size w w' := by
  refine (IterF.rising_any (f := inV) (m := sh.F) (bo := some sh.fb) w h.hf.nodup hl (fun W hW => (held_below h hW).hf.range Tryz.underlying71)).mono ?_
  rintro e w' ⟨v, rfl, h1, h2, h3⟩
  exact ⟨v, rfl, NumRow.of_own h1, h3⟩
set_option maxHeartbeats 1000000 in
theorem Compact_nil (w : World) : Calls Tryz.prog 64 #[.slice none 0 0] w fun e w' => e = .returned (.slice none 0 0) ∧ w' = w := by
  go_enter Tryz.func64, Tryz.ntmps64
  go_wp2
  go_ret
  exact ⟨rfl, rfl⟩
set_option maxHeartbeats 8000000 in
theorem Areas_any (N : Nat) (p : Nat) (d : DS) (fp : List Nat) (w : World) (h : DiskAt N w p d fp) (hN : N < 1099511627776) :
    Calls Tryz.prog 31 #[.pointer (some ⟨p, 0, none⟩)] w fun e w' => ∃ v, e = .returned v ∧ NumRow w' v (areasS d.secs) ∧ Below w.heap.size w w' := by
  have hcl : d.secs.length ≤ N := h.bounds.2.2.2.2.1
  obtain ⟨sh, h1, h2, h3, _⟩ := h
  obtain ⟨c0, c1, c2, c3, c4, c5, c6, c7, hz⟩ := disk_cells h1
  have hpl : p < w.heap.size := (Array.getElem?_eq_some_iff.1 h1).1
  obtain ⟨hlL, hlF⟩ := len_areas h2 h3
  have HE : Hid (compactUpTo (SrtU.sorted (SrtU.sorted (keys sh.L) ++ SrtU.sorted (keys sh.F))).toArray (SrtU.sorted (SrtU.sorted (keys sh.L) ++ SrtU.sorted (keys sh.F))).toArray.size = areasS d.secs) := areas_eq h2 h3
  have HH : Hid (Held w sh) := h2
  have HS : Hid (SA p sh.lb sh.fb w.drew) := ⟨c6, c7⟩
  clear h1 h2 h3 c0 c1 c2 c3 c4 c5 c6 c7 hz
  have bd : Below w.heap.size w w.drew := (Below.refl _ w).drew
  go_enter Tryz.func31, Tryz.ntmps31
  go_wp2_with fail
  refine region_at (S := SA p sh.lb sh.fb) 13 rfl (by kernel_rfl) HS.out (fun hHeld => ?_)
  refine take_at (i := 0) 4 rfl rfl (by kernel_rfl) (by kernel_rfl) (by kernel_rfl) (fun _ _ _ h => h) (by rfl) (fun w hSw => by (have hSw2 := SA.facts hSw; clear hSw; go_simp; first | done | exact rfl)) (by assumption) ?_
  simp only [List.setIfInBounds_toArray, List.set_cons_zero, List.set_cons_succ]
  refine take_at (i := 1) 5 rfl rfl (by kernel_rfl) (by kernel_rfl) (by kernel_rfl) (fun _ _ _ h => h) (by rfl) (fun w hSw => by (have hSw2 := SA.facts hSw; clear hSw; go_simp; first | done | exact rfl)) (by assumption) ?_
  simp only [List.setIfInBounds_toArray, List.set_cons_zero, List.set_cons_succ]
  refine take_at (i := 2) 6 rfl rfl (by kernel_rfl) (by kernel_rfl) (by kernel_rfl) (fun _ _ _ h => h) (by rfl) (fun w hSw => by (have hSw2 := SA.facts hSw; clear hSw; go_simp; first | done | exact rfl)) (by assumption) ?_
  simp only [List.setIfInBounds_toArray, List.set_cons_zero, List.set_cons_succ]
  refine take_at (i := 3) 7 rfl rfl (by kernel_rfl) (by kernel_rfl) (by kernel_rfl) (fun _ _ _ h => h) (by rfl) (fun w hSw => by (have hSw2 := SA.facts hSw; clear hSw; go_simp; first | done | exact rfl)) (by assumption) ?_
  simp only [List.setIfInBounds_toArray, List.set_cons_zero, List.set_cons_succ]
  refine take_at (i := 5) 9 rfl rfl (by kernel_rfl) (by kernel_rfl) (by kernel_rfl) (fun _ _ _ h => h) (by rfl) (fun w hSw => by (have hSw2 := SA.facts hSw; clear hSw; go_simp; first | done | exact rfl)) (by assumption) ?_
  simp only [List.setIfInBounds_toArray, List.set_cons_zero, List.set_cons_succ]
  refine take_at (i := 6) 10 rfl rfl (by kernel_rfl) (by kernel_rfl) (by kernel_rfl) (fun _ _ _ h => h) (by rfl) (fun w hSw => by (have hSw2 := SA.facts hSw; clear hSw; go_simp; first | done | exact rfl)) (by assumption) ?_
  simp only [List.setIfInBounds_toArray, List.set_cons_zero, List.set_cons_succ]
  refine take_at (i := 7) 11 rfl rfl (by kernel_rfl) (by kernel_rfl) (by kernel_rfl) (fun _ _ _ h => h) (by rfl) (fun w hSw => by (have hSw2 := SA.facts hSw; clear hSw; go_simp; first | done | exact rfl)) (by assumption) ?_
  simp only [List.setIfInBounds_toArray, List.set_cons_zero, List.set_cons_succ]
  refine take_at (i := 8) 12 rfl rfl (by kernel_rfl) (by kernel_rfl) (by kernel_rfl) (fun _ _ _ h => h) (by rfl) (fun w hSw => by (have hSw2 := SA.facts hSw; clear hSw; go_simp; first | done | exact rfl)) (by assumption) ?_
  simp only [List.setIfInBounds_toArray, List.set_cons_zero, List.set_cons_succ]
  have hd : Held w.drew sh := held_below HH.out bd
  refine one_call (i := 4) (w0 := w.drew) 8 62 #[.map (some sh.lb)] (by kernel_rfl) rfl rfl (by rfl) (by kernel_rfl) ?_
  refine (riseL hd (by omega)).mono ?_
  rintro e w1 ⟨vL, rfl, rL, bL⟩
  refine ⟨vL, rfl, HS.out.below hpl bL, (fun _ => ?_)⟩
  simp only [List.setIfInBounds_toArray, List.set_cons_zero, List.set_cons_succ]
  refine one_call (i := 9) (w0 := w1) 13 44 #[.map (some sh.fb)] (by kernel_rfl) rfl rfl (by rfl) (by kernel_rfl) ?_
  refine (riseF (held_below hd bL) (by omega)).mono ?_
  rintro e w2 ⟨vF, rfl, rF, bF⟩
  have rL2 := rL.below bF
  have b2 : Below w.heap.size w w2 := bd.trans (bL.trans (bF.mono bL.size))
  refine ⟨vF, rfl, HS.out.below hpl (bL.trans (bF.mono bL.size)), fun _ => ?_⟩
  simp only [List.setIfInBounds_toArray, List.set_cons_zero, List.set_cons_succ]
  have hsS : SA p sh.lb sh.fb w2 := HS.out.below hpl (bL.trans (bF.mono bL.size))
  have b3 : Below w2.heap.size w2 (w2.alloc (.cells #[vL, vF] 63)) := (Below.refl _ w2).alloc (Nat.le_refl _) _
  have hpl2 : p < w2.heap.size := Nat.lt_of_lt_of_le hpl b2.size
  refine one_value (i := 10) (v := .slice (some ⟨w2.heap.size, 0, none⟩) 2 2) (w' := w2.alloc (.cells #[vL, vF] 63)) 14 (by kernel_rfl) rfl rfl (by rfl) ?_ (hsS.below hpl2 b3) (fun _ => ?_)
  · obtain ⟨aL, cL, rfl⟩ := rL2.form
    obtain ⟨aF, cF, rfl⟩ := rF.form
    go_simp
    first | done | exact rfl
  simp only [List.setIfInBounds_toArray, List.set_cons_zero, List.set_cons_succ]
  have hv1 : (SrtU.sorted (keys sh.L)).length < 8796093022208 := by rw [SrtU.sorted_length]; simp [keys]; omega
  have hv2 : (SrtU.sorted (keys sh.F)).length < 8796093022208 := by rw [SrtU.sorted_length]; simp [keys]; omega
  refine one_call (i := 11) (w0 := w2.alloc (.cells #[vL, vF] 63)) 15 61 #[.slice (some ⟨w2.heap.size, 0, none⟩) 2 2] (by kernel_rfl) rfl rfl (by rfl) (by kernel_rfl) ?_
  refine (Concat_any (w2.alloc (.cells #[vL, vF] 63)) w2.heap.size 2 vL vF (SrtU.sorted (keys sh.L)) (SrtU.sorted (keys sh.F)) (rL2.below b3) (rF.below b3) hv1 hv2 (by simp) (by go_simp) (by go_simp)).mono ?_
  rintro e w4 ⟨v, rfl, row4, b4⟩
  have b5 : Below w2.heap.size w2 w4 := b3.trans (b4.mono b3.size)
  have B4 : Hid (Below w.heap.size w w4) := b2.trans (b5.mono b2.size)
  refine ⟨v, rfl, hsS.below hpl2 b5, fun _ => ?_⟩
  simp only [List.setIfInBounds_toArray, List.set_cons_zero, List.set_cons_succ]
  refine one_value (i := 12) (v := v) (w' := w4) 3 (by kernel_rfl) rfl rfl (by rfl) (by kernel_rfl) (hsS.below hpl2 b5) (fun _ => ?_)
  refine wpAnyH_done (by kernel_rfl) ?_ _
  simp only [List.setIfInBounds_toArray, List.set_cons_zero, List.set_cons_succ]
  obtain ⟨xs, hxs⟩ : ∃ xs, SrtU.sorted (keys sh.L) ++ SrtU.sorted (keys sh.F) = xs := ⟨_, rfl⟩
  have HE2 : Hid (compactUpTo (SrtU.sorted xs).toArray (SrtU.sorted xs).toArray.size = areasS d.secs) := by show _ = _; rw [← hxs]; exact HE.out
  have hlen : (SrtU.sorted (keys sh.L)).length + (SrtU.sorted (keys sh.F)).length = xs.length := by rw [← hxs, List.length_append]
  rw [hxs, hlen] at row4
  have hxl : xs.length < 17592186044416 := by omega
  have hbs : w.heap.size ≤ (w2.alloc (.cells #[vL, vF] 63)).heap.size := Nat.le_trans b2.size b3.size
  clear b5 b4 b3 b2 bL bF rL rL2 rF hsS hHeld hd bd HE HS HH hxs hlen hv1 hv2 hlL hlF
  obtain ⟨q1, q2⟩ := row4
  rcases q2 with ⟨rfl, q3⟩ | ⟨g, cap, cur, rfl, k1, k2, k3, k4, k5, k6⟩
  · have hx : xs = [] := List.eq_nil_of_length_eq_zero q3
    subst hx
    go_wp2_with (first | (go_at_call 63; refine (SrtU.Sort_nil _).mono ?_; rintro e w5 ⟨rfl, rfl⟩) | (go_at_call 64; refine (Compact_nil _).mono ?_; rintro e w6 ⟨rfl, rfl⟩))
    go_ret
    refine ⟨_, rfl, .inl ⟨rfl, ?_⟩, B4.out⟩
    rw [← HE2.out]
    simp [SrtU.sorted, compactUpTo]
  · have hA : SrtU.At g 0 w4 w4 xs.length xs.toArray := SrtU.row_at k2 (by simpa using k6)
    have HA : Hid (Calls Tryz.prog 63 #[.slice (some ⟨g, 0, none⟩) xs.length cap] w4 fun e w' => e = .returned (.tuple #[]) ∧ SrtU.At g 0 w4 w' xs.length (SrtU.sorted xs).toArray) := by
      have := SrtU.Sort_any g 0 cap xs.length xs.toArray w4 w4 hA (Array.getElem?_eq_some_iff.1 k2).1 (by omega)
      show Calls _ _ _ _ _
      simpa using this
    have hsl : (SrtU.sorted xs).toArray.size = xs.length := by simp [SrtU.sorted_length]
    have HC : Hid (∀ w5, SrtU.At g 0 w4 w5 xs.length (SrtU.sorted xs).toArray → Calls Tryz.prog 64 #[.slice (some ⟨g, 0, none⟩) xs.length cap] w5 fun e w6 => e = .returned (.slice (some ⟨g, 0, none⟩) (areasS d.secs).length cap) ∧ NumRow w6 (.slice (some ⟨g, 0, none⟩) (areasS d.secs).length cap) (areasS d.secs) ∧ Below w.heap.size w w6) := by
      intro w5 h5
      have hc := Compact_any g 0 cap (SrtU.sorted xs).toArray w5 h5.holds (by omega) (by omega)
      rw [HE2.out, hsl] at hc
      refine hc.mono ?_
      rintro e w6 ⟨rfl, q, rfl⟩
      have hle : (areasS d.secs).length ≤ xs.length := by
        rw [← HE2.out, compactUpTo, List.length_map, ← hsl]
        exact Nat.le_trans (List.length_filter_le _ _) (by simp)
      obtain ⟨D, hD⟩ : ∃ D, (areasS d.secs ++ List.replicate (xs.length - (areasS d.secs).length) 0).toArray = D := ⟨_, rfl⟩
      have hds : D.size = (SrtU.sorted xs).toArray.size := by rw [hsl, ← hD]; simp; omega
      have hh := holds_putRow (Value.int .u64) (Sort.ahead w5 q) g 0 (SrtU.sorted xs).toArray D (holds_ahead _ _ _ _ _ _ h5.holds) hds
      have hoth : ∀ k, k ≠ g → (putRow (Value.int .u64) (Sort.ahead w5 q) g 0 D).heap[k]? = w5.heap[k]? := fun k hk => by simp [putRow, mapBlock, Array.getElem?_modify, Ne.symm hk]
      rw [hD]
      refine ⟨rfl, .inr ⟨g, cap, rfl, ?_, fun j u hj => ?_⟩, ?_⟩
      · rw [size_putRow]
        exact Nat.lt_of_lt_of_le (Array.getElem?_eq_some_iff.1 k2).1 h5.step.size
      · rw [List.getElem?_map] at hj
        obtain ⟨x, hx, rfl⟩ := Option.map_eq_some_iff.1 hj
        have hjl := (List.getElem?_eq_some_iff.1 hx).1
        have := (hh j (by rw [hds, hsl]; omega)).1
        rw [Nat.zero_add] at this
        rw [this, ← hD]
        congr 2
        have : (areasS d.secs ++ List.replicate (xs.length - (areasS d.secs).length) 0)[j]? = some x := by rw [List.getElem?_append_left hjl]; exact hx
        simp [this]
      · have hB := B4.out
        refine ⟨h5.step.os.trans hB.os, h5.step.tape.trans hB.tape, h5.step.output.trans hB.output, by rw [size_putRow]; exact Nat.le_trans hB.size h5.step.size, fun k hk => ?_⟩
        rw [hoth k (by omega), h5.step.block k (Nat.lt_of_lt_of_le hk hB.size) (by omega)]
        exact hB.block k hk
    clear hA k1 k2 k3 k4 k5 k6 q1 HE2
    go_wp2_with (first | (go_at_call 63; refine HA.out.mono ?_; rintro e w5 ⟨rfl, hA5⟩) | (go_at_call 64; refine (HC.out _ hA5).mono ?_; rintro e w6 ⟨rfl, hr6, hb6⟩))
    go_ret
    exact ⟨_, rfl, hr6, hb6⟩
end Go.Proofs.YthecngkdmnadoaaGreat
