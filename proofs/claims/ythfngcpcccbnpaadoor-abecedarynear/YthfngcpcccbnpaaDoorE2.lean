/- Texts that were written apart, joined. -/
import Derived.Test.YthfngcpcccbnpaaDoorE1
import Derived.Handy
import Derived.Laws.OwnMore
/- edit.rows, read, both. -/
namespace Go.Proofs.YthfngcpcccbnpaaDoor
open Go.RowKit Nums Ed
set_option maxRecDepth 100000

set_option maxHeartbeats 1000000 in
theorem read_any (s : ByteArray) (w : World) (ht : Tabs w) (hm : s.size ≤ 9223372036854775807) :
    Calls Tryd.prog 63 #[.string s] w fun e w' => ∃ v f, e = .returned (.tuple #[v, .bool f]) ∧ Below w.heap.size w w' ∧
      ((f = false ∧ rsE s.data.toList = none) ∨ (f = true ∧ ∃ xs, rsE s.data.toList = some xs ∧ Made w.heap.size w' v xs)) := by
  by_cases hlen : 4096 < s.size
  · have HF : Hid (rsE s.data.toList = none) := rsE_far (by rw [size_length]; exact hlen)
    go_enter Tryd.func63, Tryd.ntmps63
    go_wp2
    go_ret2
    exact ⟨_, _, rfl, Below.refl _ _, .inl ⟨rfl, HF.out⟩⟩
  · have HR : Hid (Room s.data.toList) := room_of_length (by rw [size_length]; omega)
    go_enter Tryd.func63, Tryd.ntmps63
    go_upto_region 4 with (go_at_call 20; refine (Runes_any s _ ht (by omega) HR.out).mono ?_; rintro e w1 ⟨v, hb1, ⟨hn, rfl, rfl⟩ | ⟨xs, hsome, rfl, hmade⟩⟩)
    · have HF : Hid (rsE s.data.toList = none) := rsE_none hn
      clear hn
      go_wp2
      go_returns
      exact ⟨_, _, rfl, hb1, .inl ⟨rfl, HF.out⟩⟩
    · obtain ⟨ad, cap, rfl⟩ := hmade.runesE.form
      by_cases hx : xs.length ≤ 1024
      · have HF : Hid (rsE s.data.toList = some xs) := rsE_some hsome hx
        clear hsome
        go_wp2
        go_returns
        exact ⟨_, _, rfl, hb1, .inr ⟨by simp; omega, xs, HF.out, hmade⟩⟩
      · have HF : Hid (rsE s.data.toList = none) := rsE_long hsome hx
        clear hsome
        go_wp2
        go_returns
        exact ⟨_, _, rfl, hb1, .inl ⟨by simp; omega, HF.out⟩⟩

/-- What both tells of two texts. -/
def BothSays (w w' : World) (a b : List UInt8) (v u : Value) (f : Bool) : Prop :=
  Below w.heap.size w w' ∧ ((f = false ∧ dsE a b = none) ∨ (f = true ∧ ∃ xs ys, rsE a = some xs ∧ rsE b = some ys ∧ Made w.heap.size w' v xs ∧ Made w.heap.size w' u ys))
theorem Made.mono {B B' : Nat} {w : World} {v : Value} {xs : List Int} (h : Made B w v xs) (hB : B' ≤ B) : Made B' w v xs := by
  obtain ⟨hl, hn | ⟨g, cap, cur, rfl, h1, h2⟩⟩ := h
  · exact ⟨hl, .inl hn⟩
  · exact ⟨hl, .inr ⟨g, cap, cur, rfl, by omega, h2⟩⟩
set_option maxHeartbeats 1000000 in
theorem both_any (a b : ByteArray) (w : World) (ht : Tabs w) (ha : a.size ≤ 9223372036854775807) (hb : b.size ≤ 9223372036854775807) :
    Calls Tryd.prog 35 #[.string a, .string b] w fun e w' => ∃ v u f, e = .returned (.tuple #[v, u, .bool f]) ∧ BothSays w w' a.data.toList b.data.toList v u f := by
  go_enter Tryd.func35, Tryd.ntmps35
  go_upto_region 2 with (go_at_call 63; refine (read_any a _ ht ha).mono ?_; rintro e w1 ⟨v, f, rfl, hb1, hcase⟩)
  have ht1 : Tabs w1 := ht.below hb1
  go_upto_region 3 with (go_at_call 63; refine (read_any b _ ht1 hb).mono ?_; rintro e w2 ⟨u, f2, rfl, hb2, hcase2⟩)
  have hb12 : Below w.heap.size w w2 := hb1.trans (hb2.mono hb1.size)
  have HF : Hid (BothSays w w2 a.data.toList b.data.toList v u (f && f2)) := by
    refine ⟨hb12, ?_⟩
    rcases hcase with ⟨rfl, h1⟩ | ⟨rfl, xs, h1, m1⟩
    · exact .inl ⟨rfl, dsE_left h1⟩
    · rcases hcase2 with ⟨rfl, h2⟩ | ⟨rfl, ys, h2, m2⟩
      · exact .inl ⟨rfl, dsE_right h2⟩
      · exact .inr ⟨rfl, xs, ys, h1, h2, m1.below hb2, m2.mono hb1.size⟩
  clear hcase hcase2 hb12
  cases f
  all_goals
    go_wp2
    go_returns
    exact ⟨_, _, _, rfl, HF.out⟩
end Go.Proofs.YthfngcpcccbnpaaDoor

/- edit.rows and edit.Distance. -/
namespace Go.Proofs.YthfngcpcccbnpaaDoor
open Go.RowKit Nums Ed
set_option maxRecDepth 100000

/-- Block gl holds the values vs, each a slice of numbers. -/
def LBlk (w : World) (gl : Nat) (vs : List Value) : Prop := w.heap[gl]? = some (.cells vs.toArray 81 (0, 0))
theorem LBlk.lt {w : World} {g : Nat} {vs : List Value} (h : LBlk w g vs) : g < w.heap.size := (Array.getElem?_eq_some_iff.1 h).1
theorem LBlk.cell {w : World} {g k : Nat} {vs : List Value} {x : Value} (h : LBlk w g vs) (hk : vs[k]? = some x) : w.cell? ⟨g, k, none⟩ = some x := by
  unfold LBlk at h
  simp only [World.cell?, h]
  simp [hk]
theorem LBlk.frozen {w : World} {g : Nat} {vs : List Value} (h : LBlk w g vs) (k : Nat) : w.frozen? ⟨g, k, none⟩ = false := by
  unfold LBlk at h
  simp only [World.frozen?, h]
  simp
theorem LBlk.set {w : World} {g : Nat} {vs : List Value} (h : LBlk w g vs) (k : Nat) (x : Value) : LBlk (w.setCell ⟨g, k, none⟩ x) g (vs.set k x) := by
  unfold LBlk at h ⊢
  simp only [World.setCell, Array.getElem?_modify, h]
  simp
theorem LBlk.same {w w' : World} {g : Nat} {vs : List Value} (h : LBlk w g vs) (e : w'.heap[g]? = w.heap[g]?) : LBlk w' g vs := by
  unfold LBlk at h ⊢; rw [e]; exact h
theorem LBlk.but {w w' : World} {g r : Nat} {vs : List Value} (h : LBlk w g vs) (hb : But r w w') (hr : g ≠ r) : LBlk w' g vs := h.same (hb.block g h.lt hr)
/-- The rows that are there when k of them are cut. -/
def rowsV (g W n k : Nat) : List Value := (List.range n).map fun i => if i < k then .slice (some ⟨g, i * W, none⟩) 0 W else .slice none 0 0
theorem rowsV_len (g W n k : Nat) : (rowsV g W n k).length = n := by simp [rowsV]
theorem rowsV_get (g W n k : Nat) {i : Nat} (h : i < n) : (rowsV g W n k)[i]? = some (if i < k then .slice (some ⟨g, i * W, none⟩) 0 W else .slice none 0 0) := by
  unfold rowsV
  rw [List.getElem?_map, List.getElem?_range h]
  rfl
theorem rowsV_set (g W n k : Nat) : (rowsV g W n k).set k (.slice (some ⟨g, k * W, none⟩) 0 W) = rowsV g W n (k + 1) := by
  apply List.ext_getElem?
  intro i
  rw [List.getElem?_set]
  by_cases hi : i < n
  · rw [rowsV_get _ _ _ _ hi, rowsV_get _ _ _ _ hi, rowsV_len]
    by_cases e : k = i
    · subst e; rw [if_pos rfl, if_pos hi, if_pos (by omega)]
    · rw [if_neg e]
      by_cases c : i < k
      · rw [if_pos c, if_pos (by omega)]
      · rw [if_neg c, if_neg (by omega)]
  · rw [List.getElem?_eq_none (by rw [rowsV_len]; omega), List.getElem?_eq_none (by rw [rowsV_len]; omega), rowsV_len]
    split
    · rw [if_neg (by omega)]
    · rfl
theorem rowsV_zero (g W n : Nat) : rowsV g W n 0 = List.replicate n (.slice none 0 0) := by
  apply List.ext_getElem?
  intro i
  by_cases hi : i < n
  · rw [rowsV_get _ _ _ _ hi, if_neg (by omega), List.getElem?_replicate, if_pos hi]
  · rw [List.getElem?_eq_none (by rw [rowsV_len]; omega), List.getElem?_eq_none (by simp; omega)]
theorem infoSlice : (Tryd.prog.info? 81).map (fun i => (i.zero, i.size, i.bytes)) = some (some (.slice none 0 0), 1, 24) := by kernel_rfl
theorem own_block {w : World} {B g n : Nat} {T : TypeId} {xs : List Value} (h : w.ownsRow B T 1 (.slice (some ⟨g, 0, none⟩) n n) n xs) : w.heap[g]? = some (.cells xs.toArray T (0, 0)) := by
  obtain ⟨hl, ⟨e, _⟩ | ⟨g', cap, cur, e, h1, hg, h2, h3, h4, h5⟩⟩ := h
  · cases e
  · simp only [Value.slice.injEq, Option.some.injEq, Addr.mk.injEq] at e
    obtain ⟨⟨rfl, _, _⟩, _, rfl⟩ := e
    rw [hg]
    have : cur = xs.toArray := by
      rw [← h5, List.take_of_length_le (by rw [Array.length_toList, h4]; omega)]
    rw [this]

theorem made_ints (N : Nat) : (madeCells (Value.int .i64 0).cells (N * 1)).toList = (List.replicate N (0 : Int)).map (Value.int .i64) := by
  rw [show (Value.int .i64 0).cells = #[.int .i64 0] from rfl, Nat.mul_one, toList_madeCells_one, List.map_replicate]
theorem made_slices (N : Nat) : (madeCells (Value.slice none 0 0).cells (N * 1)).toList = List.replicate N (Value.slice none 0 0) := by
  rw [show (Value.slice none 0 0).cells = #[.slice none 0 0] from rfl, Nat.mul_one, toList_madeCells_one]
set_option maxHeartbeats 1000000 in
theorem rows_any (n W : Nat) (w : World) (hn1 : 1 ≤ n) (hW1 : 1 ≤ W) (hn : n ≤ 100000) (hW : W ≤ 100000) :
    Calls Tryd.prog 36 #[.int .i64 n, .int .i64 W] w fun e w' => ∃ g gl, e = .returned (.slice (some ⟨gl, 0, none⟩) n n) ∧ LBlk w' gl (rowsV g W n n) ∧ IBlk w' g (List.replicate (n * W) 0) ∧ Below w.heap.size w w' ∧ w.heap.size ≤ g ∧ w.heap.size ≤ gl ∧ gl ≠ g := by
  obtain ⟨i0, hi, hz0, hz1, hz2⟩ := info_parts infoInt
  obtain ⟨i1, hi1, hy0, hy1, hy2⟩ := info_parts infoSlice
  obtain ⟨N, hN⟩ : ∃ N, N = n * W := ⟨_, rfl⟩
  have hNb : N ≤ 10000000000 := by rw [hN]; exact Nat.le_trans (Nat.mul_le_mul hn hW) (by decide)
  have hwN : IntKind.i64.wrap ((n : Int) * (W : Int)) = (N : Int) := by rw [← Int.natCast_mul, ← hN, IntKind.wrap_i64]; omega
  have HN : Hid (N = n * W) := hN
  rw [← hN]
  clear hN
  go_enter Tryd.func36, Tryd.ntmps36
  go_upto_region 2 with (at_make; refine wpList_make_full _ rfl _ _ 81 rfl w.heap.size 3 i0 (.int .i64 0) 1 Tryd.underlying81 hi hz0 hz1 _ _ _ _ N rfl rfl rfl rfl (by rw [hz2]; omega) (by unfold maxLen; omega) (Nat.le_refl _) ?_; intro w1 hown1 hgrow1)
  have hI1 : IBlk w1 w.heap.size (List.replicate N 0) := by
    have := own_block hown1
    unfold IBlk
    rw [this, made_ints]
  have hs1 := hgrow1.size
  have hb1 : Below w.heap.size w w1 := (Below.refl _ w).grown hgrow1 (Nat.le_refl _) (fun k hk => by cases hk)
  clear hown1 hgrow1
  obtain ⟨g, hg⟩ : ∃ g, g = w.heap.size := ⟨_, rfl⟩
  rw [← hg] at hI1
  simp only [← hg]
  have HG : Hid (g = w.heap.size) := hg
  have hgl1 := hI1.lt
  clear hg
  have HI1 : Hid (IBlk w1 g (List.replicate N 0)) := hI1
  clear hI1
  go_upto_region 3 with (at_make; refine wpList_make_full _ rfl _ _ 79 rfl w1.heap.size 81 i1 (.slice none 0 0) 1 Tryd.underlying79 hi1 hy0 hy1 _ _ _ _ n rfl rfl rfl rfl (by rw [hy2]; omega) (by unfold maxLen; omega) (Nat.le_refl _) ?_; intro w2 hown2 hgrow2)
  have hL2 : LBlk w2 w1.heap.size (rowsV g W n 0) := by
    have := own_block hown2
    unfold LBlk
    rw [this, made_slices, rowsV_zero]
  have hb2 : Below w1.heap.size w1 w2 := (Below.refl _ w1).grown hgrow2 (Nat.le_refl _) (fun k hk => by cases hk)
  have hI2 : IBlk w2 g (List.replicate N 0) := HI1.out.same (hb2.block g hgl1)
  clear hown2 hgrow2 HI1
  obtain ⟨gl, hgl⟩ : ∃ gl, gl = w1.heap.size := ⟨_, rfl⟩
  rw [← hgl] at hL2
  simp only [← hgl]
  have HGL : Hid (gl = w1.heap.size) := hgl
  have hgne : gl ≠ g := by omega
  have hb02 : Below w.heap.size w w2 := hb1.trans (hb2.mono hb1.size)
  clear hgl hb1 hb2
  go_wp2
  go_loopw [17] (fun i wr => ∃ k : Nat, k ≤ n ∧ i = .int .i64 k ∧ LBlk wr gl (rowsV g W n k) ∧ IBlk wr g (List.replicate N 0) ∧ Below w.heap.size w wr) (fun i _ => n - (intOf i).toNat)
  case atStart => exact ⟨0, by omega, rfl, hL2, hI2, hb02⟩
  case round =>
    obtain ⟨k, hk, rfl, hL, hI, hbel⟩ := hrel
    by_cases hlt : k < n
    · have hc : wr.cell? ⟨gl, k, none⟩ = some (.slice none 0 0) := hL.cell (by rw [rowsV_get _ _ _ _ hlt, if_neg (by omega)])
      have hf := hL.frozen k
      obtain ⟨m, hm⟩ : ∃ m, m = k * W := ⟨_, rfl⟩
      have hmN : m + W ≤ N := by
        rw [hm, HN.out]
        have := Nat.mul_le_mul_right W (show k + 1 ≤ n from hlt)
        rw [Nat.add_mul] at this
        omega
      have hwm : IntKind.i64.wrap ((k : Int) * (W : Int)) = (m : Int) := by rw [← Int.natCast_mul, ← hm, IntKind.wrap_i64]; omega
      have HL : Hid (LBlk (wr.setCell ⟨gl, k, none⟩ (.slice (some ⟨g, m, none⟩) 0 W)) gl (rowsV g W n (k + 1))) := by
        have := hL.set k (.slice (some ⟨g, m, none⟩) 0 W)
        rw [hm, rowsV_set] at this
        rw [hm]
        exact this
      have HI : Hid (IBlk (wr.setCell ⟨gl, k, none⟩ (.slice (some ⟨g, m, none⟩) 0 W)) g (List.replicate N 0)) := hI.same (Below.heap_setCell _ _ _ _ (fun e => hgne e.symm))
      have HB : Hid (Below w.heap.size w (wr.setCell ⟨gl, k, none⟩ (.slice (some ⟨g, m, none⟩) 0 W))) := hbel.setCell (by show w.heap.size ≤ gl; have := HG.out; have := HGL.out; omega) _
      clear hL hI hm
      go_wp2
      go_roundw
      case rel => exact ⟨k + 1, by omega, by go_num, HL.out, HI.out, HB.out⟩
      case measure => simp [intOf]; omega
    · obtain rfl : k = n := by omega
      go_wp2
      go_ret
      exact ⟨g, gl, rfl, hL, hI, hbel, by have := HG.out; omega, by have := HG.out; have := HGL.out; omega, hgne⟩
end Go.Proofs.YthfngcpcccbnpaaDoor

/- edit.Distance. -/
namespace Go.Proofs.YthfngcpcccbnpaaDoor
open Go.RowKit Nums Ed
set_option maxRecDepth 100000

set_option maxHeartbeats 1000000 in
theorem Distance_any (a b : ByteArray) (w : World) (ht : Tabs w) (ha : a.size ≤ 9223372036854775807) (hb : b.size ≤ 9223372036854775807) :
    Calls Tryd.prog 16 #[.string a, .string b] w fun e w' => e = .returned (dsV (dsE a.data.toList b.data.toList)) ∧ Below w.heap.size w w' := by
  go_enter Tryd.func16, Tryd.ntmps16
  go_upto_region 2 with (go_at_call 35; refine (both_any a b _ ht ha hb).mono ?_; rintro e w1 ⟨vx, vy, f, rfl, hbo⟩)
  obtain ⟨hb1, ⟨rfl, hno⟩ | ⟨rfl, xs, ys, h1, h2, m1, m2⟩⟩ := hbo
  · have HF : Hid (dsE a.data.toList b.data.toList = none) := hno
    clear hno
    go_wp2
    go_ret2
    exact ⟨by rw [HF.out]; rfl, hb1⟩
  have HF : Hid (dsE a.data.toList b.data.toList = some (lv xs ys)) := dsE_some h1 h2
  have hxl := (rsE_out h1).2
  have hyl := (rsE_out h2).2
  clear h1 h2
  have HX : Hid (RunesAt w1.heap.size w1 vx xs) := m1.runesE
  have HY : Hid (RunesAt w1.heap.size w1 vy ys) := m2.runesE
  clear m1 m2
  obtain ⟨adx, capx, rfl⟩ := HX.out.form
  obtain ⟨ady, capy, rfl⟩ := HY.out.form
  obtain ⟨W, hW⟩ : ∃ W, W = ys.length + 1 := ⟨_, rfl⟩
  have hwW : IntKind.i64.wrap ((ys.length : Int) + 1) = (W : Int) := by rw [IntKind.wrap_i64]; omega
  have HW : Hid (W = ys.length + 1) := hW
  have hW1 : 1 ≤ W := by omega
  have hW2 : W ≤ 2000 := by omega
  clear hW
  go_upto_region 5 with (go_at_call 36; refine (rows_any 2 W _ (by omega) hW1 (by omega) (by omega)).mono ?_; rintro e w2 ⟨g, gl, rfl, hL, hI, hb2, hg1, hg2, hgne⟩)
  have hL0 : w2.drew.cell? ⟨gl, 0, none⟩ = some (.slice (some ⟨g, 0, none⟩) 0 W) := hL.cell (by rw [rowsV_get _ _ _ _ (by omega)]; simp)
  have hL1 : w2.drew.cell? ⟨gl, 1, none⟩ = some (.slice (some ⟨g, W, none⟩) 0 W) := hL.cell (by rw [rowsV_get _ _ _ _ (by omega)]; simp)
  have hS0 : w2.drew.cell? ⟨gl, 0, none⟩ = some (.slice (some ⟨g, 0, none⟩) 0 W) ∧ w2.drew.cell? ⟨gl, 1, none⟩ = some (.slice (some ⟨g, W, none⟩) 0 W) := ⟨hL0, hL1⟩
  have HST := start_any w2.drew g 0 W _ ys (show IBlk w2.drew g _ from hI) (by have := HW.out; omega) (by simp; have := HW.out; omega) (by omega)
  have hgll : gl < w2.drew.heap.size := hL.lt
  have hgl2 : g < w2.drew.heap.size := hI.lt
  refine region_at (S := fun W' => W'.cell? ⟨gl, 0, none⟩ = some (.slice (some ⟨g, 0, none⟩) 0 W) ∧ W'.cell? ⟨gl, 1, none⟩ = some (.slice (some ⟨g, W, none⟩) 0 W)) 11 rfl mixedP hS0 (fun _ => ?_)
  refine take_at (i := 0) 27 rfl rfl (by kernel_rfl) (by kernel_rfl) (by kernel_rfl) (fun _ _ _ h => h) (by rfl) (fun w hSw => by (have hSw2 := id hSw; clear hSw; go_simp; first | done | exact rfl)) (by assumption) ?_
  simp only [List.setIfInBounds_toArray, List.set_cons_zero, List.set_cons_succ]
  refine take_at (i := 1) 28 rfl rfl (by kernel_rfl) (by kernel_rfl) (by kernel_rfl) (fun _ _ _ h => h) (by rfl) (fun w hSw => by (have hSw2 := id hSw; clear hSw; go_simp; first | done | exact rfl)) (by assumption) ?_
  simp only [List.setIfInBounds_toArray, List.set_cons_zero, List.set_cons_succ]
  refine take_at (i := 2) 29 rfl rfl (by kernel_rfl) (by kernel_rfl) (by kernel_rfl) (fun _ _ _ h => h) (by rfl) (fun w hSw => by (have hSw2 := id hSw; clear hSw; go_simp; first | done | exact rfl)) (by assumption) ?_
  simp only [List.setIfInBounds_toArray, List.set_cons_zero, List.set_cons_succ]
  refine take_at (i := 3) 30 rfl rfl (by kernel_rfl) (by kernel_rfl) (by kernel_rfl) (fun _ _ _ h => h) (by rfl) (fun w hSw => by (have hSw2 := id hSw; clear hSw; go_simp; first | done | exact rfl)) (by assumption) ?_
  simp only [List.setIfInBounds_toArray, List.set_cons_zero, List.set_cons_succ]
  refine take_at (i := 4) 31 rfl rfl (by kernel_rfl) (by kernel_rfl) (by kernel_rfl) (fun _ _ _ h => h) (by rfl) (fun w hSw => by (have hSw2 := id hSw; clear hSw; go_simp; first | done | exact rfl)) (by assumption) ?_
  simp only [List.setIfInBounds_toArray, List.set_cons_zero, List.set_cons_succ]
  refine take_at (i := 6) 33 rfl rfl (by kernel_rfl) (by kernel_rfl) (by kernel_rfl) (fun _ _ _ h => h) (by rfl) (fun w hSw => by (have hSw2 := id hSw; clear hSw; go_simp; first | done | exact rfl)) (by assumption) ?_
  simp only [List.setIfInBounds_toArray, List.set_cons_zero, List.set_cons_succ]
  refine take_at (i := 7) 34 rfl rfl (by kernel_rfl) (by kernel_rfl) (by kernel_rfl) (fun _ _ _ h => h) (by rfl) (fun w hSw => by (have hSw2 := id hSw; clear hSw; go_simp; first | done | exact rfl)) (by assumption) ?_
  simp only [List.setIfInBounds_toArray, List.set_cons_zero, List.set_cons_succ]
  refine take_at (i := 8) 35 rfl rfl (by kernel_rfl) (by kernel_rfl) (by kernel_rfl) (fun _ _ _ h => h) (by rfl) (fun w hSw => by (have hSw2 := id hSw; clear hSw; go_simp; first | done | exact rfl)) (by assumption) ?_
  simp only [List.setIfInBounds_toArray, List.set_cons_zero, List.set_cons_succ]
  refine one_call (i := 5) (w0 := w2.drew) 32 37 #[.slice (some ⟨g, 0, none⟩) 0 W, .int .i64 ys.length] (by kernel_rfl) rfl rfl (by rfl) (by kernel_rfl) ?_
  refine HST.mono ?_
  rintro e w3 ⟨rfl, hI3, hb3⟩
  have hS3 : w3.cell? ⟨gl, 0, none⟩ = some (.slice (some ⟨g, 0, none⟩) 0 W) ∧ w3.cell? ⟨gl, 1, none⟩ = some (.slice (some ⟨g, W, none⟩) 0 W) := by
    have e := hb3.block gl hgll hgne
    exact ⟨(World.cell?_of_block (a := ⟨gl, 0, none⟩) e).trans hS0.1, (World.cell?_of_block (a := ⟨gl, 1, none⟩) e).trans hS0.2⟩
  refine ⟨_, rfl, hS3, fun _ => ?_⟩
  simp only [List.setIfInBounds_toArray, List.set_cons_zero, List.set_cons_succ]
  refine one_value (i := 9) (v := .slice (some ⟨g, 0, none⟩) (ys.length + 1) W) (w' := w3) 10 (by kernel_rfl) rfl rfl (by rfl) (by kernel_rfl) hS3 (fun _ => ?_)
  simp only [List.setIfInBounds_toArray, List.set_cons_zero, List.set_cons_succ]
  refine one_value (i := 10) (v := .slice (some ⟨g, W, none⟩) 0 W) (w' := w3) 11 (by kernel_rfl) rfl rfl (by rfl) (by kernel_rfl) hS3 (fun _ => ?_)
  simp only [List.setIfInBounds_toArray, List.set_cons_zero, List.set_cons_succ]
  refine wpAnyH_done (by kernel_rfl) ?_ _
  have hE3 : Below w1.heap.size w1 w3 := by
    have h := hb3.below (B := w1.heap.size) hg1 hb2.size
    exact ⟨h.os.trans hb2.os, h.tape.trans hb2.tape, h.output.trans hb2.output, Nat.le_trans hb2.size h.size, fun k hk => (h.block k hk).trans (hb2.block k hk)⟩
  have HI3 : Hid (IBlk w3 g (lay (List.replicate (2 * W) 0) 0 (dr [] ys))) := hI3
  clear hS0 hS3 hL0 hL1 HST hI3 hL hI hb3 hb2 hgll hgl2
  go_wp2
  go_loopw [10, 11, 38] (fun v u i wr => ∃ (k fa fb q : Nat) (cs : List Int), k ≤ xs.length ∧ i = .int .i64 k ∧ v = .slice (some ⟨g, fa, none⟩) (ys.length + 1) W ∧ u = .slice (some ⟨g, fb, none⟩) q W ∧ ((fa = 0 ∧ fb = W) ∨ (fa = W ∧ fb = 0)) ∧ cs.length = 2 * W ∧ IBlk wr g cs ∧ (∀ j, j ≤ ys.length → cs[fa + j]? = some (lv (xs.take k) (ys.take j) : Int)) ∧ Below w1.heap.size w1 wr) (fun _ _ i _ => xs.length - (intOf i).toNat)
  case atStart =>
    have hlen : 0 + (dr [] ys).length ≤ (List.replicate (2 * W) (0 : Int)).length := by rw [dr_len, List.length_replicate]; have := HW.out; omega
    refine ⟨0, 0, W, 0, _, Nat.zero_le _, rfl, rfl, rfl, .inl ⟨rfl, rfl⟩, ?_, HI3.out, fun j hj => ?_, hE3⟩
    · rw [lay_len hlen, List.length_replicate]
    · rw [lay_in hlen (by rw [dr_len]; omega), dr_get _ _ hj]; simp
  case round =>
    obtain ⟨k, fa, fb, q, cs, hk, rfl, rfl, rfl, hfab, hcl, hI, hA, hbel⟩ := hrel
    have HI : Hid (IBlk wr g cs) := hI
    have HA : Hid (∀ j, j ≤ ys.length → cs[fa + j]? = some (lv (xs.take k) (ys.take j) : Int)) := hA
    have HC : Hid (cs.length = 2 * W) := hcl
    have HAB : Hid ((fa = 0 ∧ fb = W) ∨ (fa = W ∧ fb = 0)) := hfab
    clear hI hA hcl hfab
    by_cases hlt : k < xs.length
    · obtain ⟨r, hr⟩ : ∃ r, xs[k]? = some r := ⟨_, List.getElem?_eq_getElem hlt⟩
      obtain ⟨gx, offx, rfl, hgx, hcx⟩ := (HX.out.below hbel).at hr
      have HT : Hid (xs.take (k + 1) = xs.take k ++ [r]) := by unfold Hid; rw [List.take_add_one, hr]; rfl
      clear hr
      go_wp2_with (go_at_call 38; refine (next_any wr g fb fa W W cs (xs.take k) ys r _ w1.heap.size HI.out (by have := HW.out; omega) (by have := HC.out; have := HW.out; rcases HAB.out with h | h <;> omega) HA.out (by have := HW.out; rcases HAB.out with h | h <;> omega) (HY.out.below hbel) hg1 (by omega) (by rw [List.length_take]; omega)).mono ?_; rintro e w4 ⟨rfl, hI4, hb4⟩)
      have hlen : Hid (fb + (dr (xs.take k ++ [r]) ys).length ≤ cs.length) := by unfold Hid; rw [dr_len, HC.out]; have := HW.out; rcases HAB.out with h | h <;> omega
      go_roundw
      case rel =>
        refine ⟨k + 1, fb, fa, _, _, by omega, by go_num, rfl, rfl, by rcases HAB.out with h | h; exact .inr ⟨h.2, h.1⟩; exact .inl ⟨h.2, h.1⟩, ?_, hI4, fun j hj => ?_, ?_⟩
        · rw [lay_len hlen.out]; exact HC.out
        · rw [lay_in hlen.out (by rw [dr_len]; omega), dr_get _ _ hj, HT.out]
        · exact hbel.trans (hb4.below hg1 hbel.size)
      case measure => simp [intOf]; omega
    · obtain rfl : k = xs.length := by omega
      have hc : wr.cell? ⟨g, fa + ys.length, none⟩ = some (.int .i64 (lv xs ys : Int)) := by
        have := HA.out ys.length (Nat.le_refl _)
        rw [List.take_of_length_le (Nat.le_refl _), List.take_of_length_le (Nat.le_refl _)] at this
        exact HI.out.cell this
      go_wp2
      go_ret2
      exact ⟨by rw [HF.out]; rfl, hb1.trans (hbel.mono hb1.size)⟩
end Go.Proofs.YthfngcpcccbnpaaDoor

/- Cut: what the seat's translation lacks is left out. -/
/- edit.Within, the law's own near and alive. -/
namespace Go.Proofs.YthfngcpcccbnpaaDoor
open Go.RowKit Nums Ed
set_option maxRecDepth 100000

def dN (o : Option Nat) : Int := match o with | some n => (n : Int) | none => 0
def dF (o : Option Nat) : Bool := match o with | some _ => true | none => false
theorem dsV_eq (o : Option Nat) : dsV o = .tuple #[.int .i64 (dN o), .bool (dF o)] := by cases o <;> rfl
def wiB (o : Option Nat) (m : Int) : Bool := match o with | some n => decide ((n : Int) ≤ m) | none => false
/-- Distance, as one tuple of two. -/
theorem Distance_is (a b : ByteArray) (w : World) (ht : Tabs w) (ha : a.size ≤ 9223372036854775807) (hb : b.size ≤ 9223372036854775807) :
    Calls Tryd.prog 16 #[.string a, .string b] w fun e w' => e = .returned (.tuple #[.int .i64 (dN (dsE a.data.toList b.data.toList)), .bool (dF (dsE a.data.toList b.data.toList))]) ∧ Below w.heap.size w w' := by
  refine (Distance_any a b w ht ha hb).mono ?_
  rintro e w' ⟨rfl, h⟩
  exact ⟨by rw [dsV_eq], h⟩

theorem Within_any (a b : ByteArray) (m : Int) (w : World) (ht : Tabs w) (ha : a.size ≤ 9223372036854775807) (hb : b.size ≤ 9223372036854775807) :
    Calls Tryd.prog 18 #[.string a, .string b, .int .i64 m] w fun e w' => e = .returned (.bool (wiB (dsE a.data.toList b.data.toList) m)) ∧ Below w.heap.size w w' := by
  have HD := Distance_is a b w ht ha hb
  generalize dsE a.data.toList b.data.toList = o at *
  go_enter Tryd.func18, Tryd.ntmps18
  go_upto_region 2 with (go_at_call 16; refine HD.mono ?_; rintro e w1 ⟨rfl, hb1⟩)
  clear HD
  cases o with
  | none =>
    simp only [dN, dF]
    go_wp2
    go_ret
    exact ⟨rfl, hb1⟩
  | some n =>
    simp only [dN, dF]
    go_wp2
    go_ret
    exact ⟨rfl, hb1⟩

/-- What a law keeps from call to call. -/
structure Acc (w0 w : World) : Prop where
  bel : Below w0.heap.size w0 w
  tabs : Tabs w
theorem Acc.refl {w : World} (ht : Tabs w) : Acc w w := ⟨Below.refl _ _, ht⟩
theorem Acc.step {w0 w w' : World} (h : Acc w0 w) (hb : Below w.heap.size w w') : Acc w0 w' := ⟨h.bel.trans (hb.mono h.bel.size), h.tabs.below hb⟩
end Go.Proofs.YthfngcpcccbnpaaDoor
