/- edit.rows and edit.Distance. -/
import Derived.Test.YtjfbildaaobfpaaDoorEdDist
import Derived.Laws.OwnMore
namespace Go.Proofs.YtjfbildaaobfpaaDoor
open Go.RowKit Nums Ed
set_option maxRecDepth 100000

/-- Block gl holds the values vs, each a slice of numbers. -/
def LBlk (w : World) (gl : Nat) (vs : List Value) : Prop := w.heap[gl]? = some (.cells vs.toArray 41 (0, 0))
theorem LBlk.lt {w : World} {g : Nat} {vs : List Value} (h : LBlk w g vs) : g < w.heap.size := (Array.getElem?_eq_some_iff.1 h).1
theorem LBlk.cell {w : World} {g k : Nat} {vs : List Value} {x : Value} (h : LBlk w g vs) (hk : vs[k]? = some x) : w.cell? ⟨g, k, none⟩ = some x := by
  unfold LBlk at h
  simp only [World.cell?, h]
  simp [hk]
theorem LBlk.frozen {w : World} {g : Nat} {vs : List Value} (h : LBlk w g vs) (k : Nat) : w.frozen? ⟨g, k, none⟩ = false := by
  unfold LBlk at h
  simp only [World.frozen?, h]
  simp
theorem LBlk.set {w : World} {g : Nat} {vs : List Value} (h : LBlk w g vs) (k : Nat) (x : Value) : LBlk (w.setCell ⟨g, k, none⟩ x) g (vs.set k x) := by
  unfold LBlk at h ⊢
  simp only [World.setCell, Array.getElem?_modify, h]
  simp
theorem LBlk.same {w w' : World} {g : Nat} {vs : List Value} (h : LBlk w g vs) (e : w'.heap[g]? = w.heap[g]?) : LBlk w' g vs := by
  unfold LBlk at h ⊢; rw [e]; exact h
theorem LBlk.but {w w' : World} {g r : Nat} {vs : List Value} (h : LBlk w g vs) (hb : But r w w') (hr : g ≠ r) : LBlk w' g vs := h.same (hb.block g h.lt hr)
/-- The rows that are there when k of them are cut. -/
def rowsV (g W n k : Nat) : List Value := (List.range n).map fun i => if i < k then .slice (some ⟨g, i * W, none⟩) 0 W else .slice none 0 0
theorem rowsV_len (g W n k : Nat) : (rowsV g W n k).length = n := by simp [rowsV]
theorem rowsV_get (g W n k : Nat) {i : Nat} (h : i < n) : (rowsV g W n k)[i]? = some (if i < k then .slice (some ⟨g, i * W, none⟩) 0 W else .slice none 0 0) := by
  unfold rowsV
  rw [List.getElem?_map, List.getElem?_range h]
  rfl
theorem rowsV_set (g W n k : Nat) : (rowsV g W n k).set k (.slice (some ⟨g, k * W, none⟩) 0 W) = rowsV g W n (k + 1) := by
  apply List.ext_getElem?
  intro i
  rw [List.getElem?_set]
  by_cases hi : i < n
  · rw [rowsV_get _ _ _ _ hi, rowsV_get _ _ _ _ hi, rowsV_len]
    by_cases e : k = i
    · subst e; rw [if_pos rfl, if_pos hi, if_pos (by omega)]
    · rw [if_neg e]
      by_cases c : i < k
      · rw [if_pos c, if_pos (by omega)]
      · rw [if_neg c, if_neg (by omega)]
  · rw [List.getElem?_eq_none (by rw [rowsV_len]; omega), List.getElem?_eq_none (by rw [rowsV_len]; omega), rowsV_len]
    split
    · rw [if_neg (by omega)]
    · rfl
theorem rowsV_zero (g W n : Nat) : rowsV g W n 0 = List.replicate n (.slice none 0 0) := by
  apply List.ext_getElem?
  intro i
  by_cases hi : i < n
  · rw [rowsV_get _ _ _ _ hi, if_neg (by omega), List.getElem?_replicate, if_pos hi]
  · rw [List.getElem?_eq_none (by rw [rowsV_len]; omega), List.getElem?_eq_none (by simp; omega)]
theorem infoSlice : (Tryd.prog.info? 41).map (fun i => (i.zero, i.size, i.bytes)) = some (some (.slice none 0 0), 1, 24) := by kernel_rfl
theorem own_block {w : World} {B g n : Nat} {T : TypeId} {xs : List Value} (h : w.ownsRow B T 1 (.slice (some ⟨g, 0, none⟩) n n) n xs) : w.heap[g]? = some (.cells xs.toArray T (0, 0)) := by
  obtain ⟨hl, ⟨e, _⟩ | ⟨g', cap, cur, e, h1, hg, h2, h3, h4, h5⟩⟩ := h
  · cases e
  · simp only [Value.slice.injEq, Option.some.injEq, Addr.mk.injEq] at e
    obtain ⟨⟨rfl, _, _⟩, _, rfl⟩ := e
    rw [hg]
    have : cur = xs.toArray := by
      rw [← h5, List.take_of_length_le (by rw [Array.length_toList, h4]; omega)]
    rw [this]

theorem made_ints (N : Nat) : (madeCells (Value.int .i64 0).cells (N * 1)).toList = (List.replicate N (0 : Int)).map (Value.int .i64) := by
  rw [show (Value.int .i64 0).cells = #[.int .i64 0] from rfl, Nat.mul_one, toList_madeCells_one, List.map_replicate]
theorem made_slices (N : Nat) : (madeCells (Value.slice none 0 0).cells (N * 1)).toList = List.replicate N (Value.slice none 0 0) := by
  rw [show (Value.slice none 0 0).cells = #[.slice none 0 0] from rfl, Nat.mul_one, toList_madeCells_one]
set_option maxHeartbeats 1000000 in
theorem rows_any (n W : Nat) (w : World) (hn1 : 1 ≤ n) (hW1 : 1 ≤ W) (hn : n ≤ 100000) (hW : W ≤ 100000) :
    Calls Tryd.prog 20 #[.int .i64 n, .int .i64 W] w fun e w' => ∃ g gl, e = .returned (.slice (some ⟨gl, 0, none⟩) n n) ∧ LBlk w' gl (rowsV g W n n) ∧ IBlk w' g (List.replicate (n * W) 0) ∧ Below w.heap.size w w' ∧ w.heap.size ≤ g ∧ w.heap.size ≤ gl ∧ gl ≠ g := by
  obtain ⟨i0, hi, hz0, hz1, hz2⟩ := info_parts infoInt
  obtain ⟨i1, hi1, hy0, hy1, hy2⟩ := info_parts infoSlice
  obtain ⟨N, hN⟩ : ∃ N, N = n * W := ⟨_, rfl⟩
  have hNb : N ≤ 10000000000 := by rw [hN]; exact Nat.le_trans (Nat.mul_le_mul hn hW) (by decide)
  have hwN : IntKind.i64.wrap ((n : Int) * (W : Int)) = (N : Int) := by rw [← Int.natCast_mul, ← hN, IntKind.wrap_i64]; omega
  have HN : Hid (N = n * W) := hN
  rw [← hN]
  clear hN
  go_enter Tryd.func20, Tryd.ntmps20
  go_upto_region 2 with (at_make; refine wpList_make_full _ rfl _ _ 41 rfl w.heap.size 3 i0 (.int .i64 0) 1 Tryd.underlying41 hi hz0 hz1 _ _ _ _ N rfl rfl rfl rfl (by rw [hz2]; omega) (by unfold maxLen; omega) (Nat.le_refl _) ?_; intro w1 hown1 hgrow1)
  have hI1 : IBlk w1 w.heap.size (List.replicate N 0) := by
    have := own_block hown1
    unfold IBlk
    rw [this, made_ints]
  have hs1 := hgrow1.size
  have hb1 : Below w.heap.size w w1 := (Below.refl _ w).grown hgrow1 (Nat.le_refl _) (fun k hk => by cases hk)
  clear hown1 hgrow1
  obtain ⟨g, hg⟩ : ∃ g, g = w.heap.size := ⟨_, rfl⟩
  rw [← hg] at hI1
  simp only [← hg]
  have HG : Hid (g = w.heap.size) := hg
  have hgl1 := hI1.lt
  clear hg
  have HI1 : Hid (IBlk w1 g (List.replicate N 0)) := hI1
  clear hI1
  go_upto_region 3 with (at_make; refine wpList_make_full _ rfl _ _ 39 rfl w1.heap.size 41 i1 (.slice none 0 0) 1 Tryd.underlying39 hi1 hy0 hy1 _ _ _ _ n rfl rfl rfl rfl (by rw [hy2]; omega) (by unfold maxLen; omega) (Nat.le_refl _) ?_; intro w2 hown2 hgrow2)
  have hL2 : LBlk w2 w1.heap.size (rowsV g W n 0) := by
    have := own_block hown2
    unfold LBlk
    rw [this, made_slices, rowsV_zero]
  have hb2 : Below w1.heap.size w1 w2 := (Below.refl _ w1).grown hgrow2 (Nat.le_refl _) (fun k hk => by cases hk)
  have hI2 : IBlk w2 g (List.replicate N 0) := HI1.out.same (hb2.block g hgl1)
  clear hown2 hgrow2 HI1
  obtain ⟨gl, hgl⟩ : ∃ gl, gl = w1.heap.size := ⟨_, rfl⟩
  rw [← hgl] at hL2
  simp only [← hgl]
  have HGL : Hid (gl = w1.heap.size) := hgl
  have hgne : gl ≠ g := by omega
  have hb02 : Below w.heap.size w w2 := hb1.trans (hb2.mono hb1.size)
  clear hgl hb1 hb2
  go_wp2
  go_loopw [17] (fun i wr => ∃ k : Nat, k ≤ n ∧ i = .int .i64 k ∧ LBlk wr gl (rowsV g W n k) ∧ IBlk wr g (List.replicate N 0) ∧ Below w.heap.size w wr) (fun i _ => n - (intOf i).toNat)
  case atStart => exact ⟨0, by omega, rfl, hL2, hI2, hb02⟩
  case round =>
    obtain ⟨k, hk, rfl, hL, hI, hbel⟩ := hrel
    by_cases hlt : k < n
    · have hc : wr.cell? ⟨gl, k, none⟩ = some (.slice none 0 0) := hL.cell (by rw [rowsV_get _ _ _ _ hlt, if_neg (by omega)])
      have hf := hL.frozen k
      obtain ⟨m, hm⟩ : ∃ m, m = k * W := ⟨_, rfl⟩
      have hmN : m + W ≤ N := by
        rw [hm, HN.out]
        have := Nat.mul_le_mul_right W (show k + 1 ≤ n from hlt)
        rw [Nat.add_mul] at this
        omega
      have hwm : IntKind.i64.wrap ((k : Int) * (W : Int)) = (m : Int) := by rw [← Int.natCast_mul, ← hm, IntKind.wrap_i64]; omega
      have HL : Hid (LBlk (wr.setCell ⟨gl, k, none⟩ (.slice (some ⟨g, m, none⟩) 0 W)) gl (rowsV g W n (k + 1))) := by
        have := hL.set k (.slice (some ⟨g, m, none⟩) 0 W)
        rw [hm, rowsV_set] at this
        rw [hm]
        exact this
      have HI : Hid (IBlk (wr.setCell ⟨gl, k, none⟩ (.slice (some ⟨g, m, none⟩) 0 W)) g (List.replicate N 0)) := hI.same (Below.heap_setCell _ _ _ _ (fun e => hgne e.symm))
      have HB : Hid (Below w.heap.size w (wr.setCell ⟨gl, k, none⟩ (.slice (some ⟨g, m, none⟩) 0 W))) := hbel.setCell (by show w.heap.size ≤ gl; have := HG.out; have := HGL.out; omega) _
      clear hL hI hm
      go_wp2
      go_roundw
      case rel => exact ⟨k + 1, by omega, by go_num, HL.out, HI.out, HB.out⟩
      case measure => simp [intOf]; omega
    · obtain rfl : k = n := by omega
      go_wp2
      go_ret
      exact ⟨g, gl, rfl, hL, hI, hbel, by have := HG.out; omega, by have := HG.out; have := HGL.out; omega, hgne⟩
end Go.Proofs.YtjfbildaaobfpaaDoor
