/- The reference's table in memory; its Latest. -/
import Derived.Test.YtoiikmfdoadkpaaSeMath
namespace Go.Proofs.Ytoiikmfdoadkpaa
open Go.RowKit Go.Lib
set_option maxRecDepth 100000
namespace Se
theorem rtyK : RTy 62 27 5 40 := ⟨by kernel_rfl, ⟨.agg #[.int .u64 0, .int .u64 0, .int .i64 0, .int .u64 0, .int .i64 0], by kernel_rfl, rfl⟩, by decide, by decide⟩
theorem cellsK_ok (m : Kp) : Cells 5 (cellsK m) := ⟨rfl, by intro u hu; simp [cellsK] at hu; rcases hu with rfl | rfl | rfl | rfl | rfl <;> rfl⟩
/-- The rows' slice of a reference's table. -/
def tvs (x : Tb) : Value := .slice x.2.1 x.2.2.1 x.2.2.2
/-- A reference's table: m sessions, ks kept. -/
def KAt (w : World) (x : Tb) (m : Nat) (ks : List Kp) : Prop := x.1 = (m : Int) ∧ GOwn 62 5 0 w (tvs x) (ks.map cellsK)
theorem KAt.upd {w w' : World} {x : Tb} {m : Nat} {ks : List Kp} {F : Nat → Prop} (h : KAt w x m ks) (u : Upd F w w') (hF : ∀ g, (tvs x).ownBlock = some g → ¬ F g) : KAt w' x m ks := ⟨h.1, GOwn.upd h.2 u hF⟩
theorem KAt.below {w w' : World} {x : Tb} {m : Nat} {ks : List Kp} (h : KAt w x m ks) (hb : Below w.heap.size w w') : KAt w' x m ks := ⟨h.1, h.2.below hb⟩
theorem kat_nil (w : World) : KAt w (0, none, 0, 0) 0 [] := ⟨rfl, GOwn.nil _ _ _ _⟩
theorem lt_of_heap {w : World} {k : Nat} {o : Obj} (h : w.heap[k]? = some o) : k < w.heap.size := (Array.getElem?_eq_some_iff.1 h).1
theorem heap_own {B : Nat} {w w' : World} {k : Nat} {o : Obj} (hb : Below B w w') (hk : k < B) (h : w.heap[k]? = some o) : w'.heap[k]? = some o := (hb.block k hk).trans h
attribute [local go_sem ↓] exec_load_K exec_store_K
theorem lat_results {tmps : Array Value} {w : World} {rb : Nat} {x : Kp} (h2 : tmps.getD 4 undef = .pointer (some ⟨rb, 0, none⟩)) (c : CAt w rb 0 (cellsK x)) : (results Try.f23 tmps).run Try.prog w = .ok (valK x) w := by
  have c0 := c 0 _ rfl
  have c1 := c 1 _ rfl
  have c2 := c 2 _ rfl
  have c3 := c 3 _ rfl
  have c4 := c 4 _ rfl
  simp only [Nat.add_zero] at c0
  have h2' : tmps[4]?.getD undef = .pointer (some ⟨rb, 0, none⟩) := by simpa using h2
  simp [results, Try.results23, go_sem, h2', c0, c1, c2, c3, c4, valK]
/-- How Latest's blocks lie in a round. -/
structure LatW (q : Nat) (V : World) (x : Tb) (k : Kp) (w : World) : Prop where
  box : w.heap[q]? = some (.cells #[.int .u64 x.1, tvs x] 29)
  res : w.heap[q + 1]? = some zK
  cur : w.heap[q + 1 + 1]? = some (.cells (cellsK k).toArray 62)
  upd : Upd (fun b => b = q + 1 + 1) V w
set_option maxHeartbeats 2000000 in
theorem Latest_any (w : World) (x : Tb) (m : Nat) (ks : List Kp) (id : Int) (K : KAt w x m ks) (hl : ks.length ≤ 1099511627776) : Calls Try.prog 23 #[valT x, .int .u64 id] w fun e w' => e = .returned (valK (latest ks id)) ∧ Below w.heap.size w w' := by
  obtain ⟨m', ad, n', cap⟩ := x
  obtain ⟨q0, hq0⟩ : ∃ q, w.heap.size = q := ⟨_, rfl⟩
  obtain ⟨V1, hV1⟩ : ∃ V1, w.alloc (.cells #[.int .u64 m', .slice ad n' cap] 29) = V1 := ⟨_, rfl⟩
  have hb1 : Below w.heap.size w V1 := by rw [← hV1]; exact (Below.refl _ w).alloc (Nat.le_refl _) _
  have hn1 : V1.heap[q0]? = some (.cells #[.int .u64 m', .slice ad n' cap] 29) := by rw [← hV1, ← hq0]; exact alloc_newM _ _
  obtain ⟨V2, hV2⟩ : ∃ V2, V1.alloc zK = V2 := ⟨_, rfl⟩
  have hb2 : Below V1.heap.size V1 V2 := by rw [← hV2]; exact (Below.refl _ V1).alloc (Nat.le_refl _) _
  have hn2 : V2.heap[V1.heap.size]? = some zK := by rw [← hV2]; exact alloc_newM _ _
  obtain ⟨V3, hst3, hb3, hn3⟩ := new_storeK V2 (id, 0, 0, 0, 0)
  have hlt1 : q0 < V1.heap.size := (Array.getElem?_eq_some_iff.1 hn1).1
  have hlt2 : V1.heap.size < V2.heap.size := (Array.getElem?_eq_some_iff.1 hn2).1
  have hm1 : V3.heap[q0]? = some (.cells #[.int .u64 m', .slice ad n' cap] 29) := heap_own hb3 (by omega) (heap_own hb2 hlt1 hn1)
  have hm2 : V3.heap[V1.heap.size]? = some zK := heap_own hb3 hlt2 hn2
  have hwb : Below w.heap.size w V3 := hb1.trans ((hb2.mono (by omega)).trans (hb3.mono (by omega)))
  obtain ⟨_, _, hv, _⟩ := K.2.shape
  have HN : Hid (ks.length = n') := by simp only [tvs, Value.slice.injEq] at hv; rw [List.length_map] at hv; exact hv.2.1.symm
  have hK3 : GOwn 62 5 0 V3 (.slice ad n' cap) (ks.map cellsK) := K.2.below hwb
  have e1 : V1.heap.size = q0 + 1 := by rw [← hV1, ← hq0]; simp
  have e2 : V2.heap.size = q0 + 1 + 1 := by rw [← hV2, ← e1]; simp
  have HK : Hid (GOwn 62 5 0 V3 (.slice ad n' cap) (ks.map cellsK)) := hK3
  rw [e1] at hm2
  rw [e2] at hn3 hst3
  have HS : Hid (LatW q0 V3 (m', ad, n', cap) (id, 0, 0, 0, 0) V3) := ⟨hm1, hm2, hn3, Upd.refl _ _⟩
  have HG : Hid (∀ g, (Value.slice ad n' cap).ownBlock = some g → g < q0) := fun g hg => by rw [← hq0]; exact K.2.lt hg
  have HW : Hid (Below q0 w V3) := by rw [← hq0]; exact hwb
  unfold valK at hst3
  unfold zK at hV2 hst3
  clear hb1 hb2 hb3 hn1 hn2 hn3 hm1 hm2 hlt1 hlt2 hwb hv K hK3
  unfold valT
  go_enter Try.func23, Try.ntmps23
  go_wp2
  have hn40 : n' ≤ 1099511627776 := by have := HN.out; omega
  clear e1 e2 hV1 hV2 hst3 hl
  go_loopg [6] n' (fun g s6 wr => ∃ (k : Nat), s6 = .int .i64 k ∧ k ≤ n' ∧ n' - k ≤ g ∧ Hid (LatW q0 V3 (m', ad, n', cap) (latest (ks.take k) id) wr))
  case atStart => exact ⟨0, rfl, Nat.zero_le _, by omega, HS.out⟩
  case round =>
    obtain ⟨k, rfl, hk, hg, HL⟩ := hrel
    have hbox := HL.out.box
    have c1 : wr.cell? ⟨q0, 1, none⟩ = some (.slice ad n' cap) := by simp [World.cell?, hbox, tvs]
    clear hbox
    by_cases hlt : k < n'
    · have hltz : (k : Int) < (n' : Int) := by omega
      obtain ⟨x, hx⟩ : ∃ x, ks[k]? = some x := ⟨ks[k]'(by have := HN.out; omega), List.getElem?_eq_getElem _⟩
      have HX : Hid (ks[k]? = some x) := hx
      have HLT : Hid (k < n') := hlt
      obtain ⟨g1, cap1, hv1, hg1, hB9, hcap9, hc⟩ := (GOwn.upd HK.out HL.out.upd (fun g hg e => by have := HG.out g hg; omega)).cell (by rw [List.length_map, HN.out]; omega)
      simp only [Value.slice.injEq] at hv1
      obtain ⟨rfl, hn9, hc9⟩ := hv1
      clear hn9 hc9 hB9 hcap9
      have hxm : (ks.map cellsK)[k]? = some (cellsK x) := by rw [List.getElem?_map, hx]; rfl
      have hld : loadK Try.prog (.pointer (some ⟨g1, k * 5, none⟩)) wr = .ok (valK x) wr := loadK_at (fun j u hj => hc k j _ u hxm hj)
      have c0 : wr.cell? ⟨g1, k * 5, none⟩ = some (.int .u64 x.1) := hc k 0 _ _ hxm rfl
      obtain ⟨W, hst, huW, hcW⟩ := own_storeK (ys := cellsK (latest (ks.take k) id)) rfl HL.out.cur x
      have HZ : Hid (Upd (fun k => k = q0 + 1 + 1) wr W ∧ W.heap[q0 + 1 + 1]? = some (.cells (cellsK x).toArray 62)) := ⟨huW, hcW⟩
      unfold valK at hld hst
      clear hx hc hxm huW hcW
      by_cases he : x.1 = id
      · rw [he] at hst hld c0
        go_wp2
        go_roundg (n' - (k + 1))
        case measure => have := HLT.out; omega
        case rel =>
          have h1 := HL.out
          refine ⟨k + 1, by go_num, HLT.out, Nat.le_refl _, ⟨(HZ.out.1.block _ (lt_of_heap h1.box) (by show ¬ q0 = q0 + 1 + 1; omega)).trans h1.box, (HZ.out.1.block _ (lt_of_heap h1.res) (by show ¬ q0 + 1 = q0 + 1 + 1; omega)).trans h1.res, ?_, h1.upd.trans HZ.out.1 (fun _ _ e => e)⟩⟩
          rw [latest_step HX.out, pickK, if_pos he]
          exact HZ.out.2
      · have he2 : (x.1 == id) = false := by simpa using he
        go_wp2
        go_roundg (n' - (k + 1))
        case measure => have := HLT.out; omega
        case rel =>
          refine ⟨k + 1, by go_num, HLT.out, Nat.le_refl _, ?_⟩
          show LatW _ _ _ _ _
          rw [latest_step HX.out, pickK, if_neg he]
          exact HL.out
    · have hltz : ¬ (k : Int) < (n' : Int) := by omega
      have hkn : k = n' := by omega
      have hcur := HL.out.cur
      rw [hkn, List.take_of_length_le (by have := HN.out; omega)] at hcur
      have hld : loadK Try.prog (.pointer (some ⟨q0 + 1 + 1, 0, none⟩)) wr = .ok (valK (latest ks id)) wr := own_loadK hcur
      obtain ⟨W, hst, huW, hcW⟩ := own_storeK (ys := [.int .u64 0, .int .u64 0, .int .i64 0, .int .u64 0, .int .i64 0]) rfl HL.out.res (latest ks id)
      have HZ : Hid (Upd (fun k => k = q0 + 1) wr W ∧ CAt W (q0 + 1) 0 (cellsK (latest ks id))) := ⟨huW, cat_new hcW⟩
      have HB : Hid (Below q0 w W) := by
        have h1 := HL.out.upd.below (B := q0) (fun k e => by have : k = q0 + 1 + 1 := e; omega) (by have := HW.out.size; omega)
        have h2 := huW.below (B := q0) (fun k e => by have : k = q0 + 1 := e; omega) (by have := HW.out.size; have := h1.size; omega)
        exact (HW.out.trans h1).trans h2
      clear hkn hcur huW hcW
      unfold valK at hld hst
      go_wp2
      refine bodyPost_ret (lat_results rfl HZ.out.2) rfl ?_
      exact ⟨rfl, HB.out⟩
end Se
end Go.Proofs.Ytoiikmfdoadkpaa
