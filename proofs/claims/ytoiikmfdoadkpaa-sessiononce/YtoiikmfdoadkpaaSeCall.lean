/- A table's New, Rows, Check, Keep, Open, Clone. -/
import Derived.Test.YtoiikmfdoadkpaaSeTab
import Derived.Shelf.SlicesE.Clone
import Derived.Ground.SlgnProg
namespace Go.Proofs.Ytoiikmfdoadkpaa
open Go.RowKit Go.Lib Go.Shelf
set_option maxRecDepth 100000
shelf_lay_g SlLaysE0.n41 Slgn 41 at Try 24 as cloneR
namespace Se
theorem tab_new {B p : Nat} {W : World} {v : Value} {l : List Rw} (hn : W.heap[p]? = some (.cells #[v] 56)) (hB : B ≤ p) (ho : GOwn 43 4 B W v (l.map cellsR)) (ha : v.ownBlock ≠ some p) : TAt B W p v l :=
  ⟨hB, (Array.getElem?_eq_some_iff.1 hn).1, by simp [World.cell?, hn], by simp [World.frozen?, hn], ho, ha⟩
theorem New_any (w : World) : Calls Try.prog 9 #[] w fun e w' => e = .returned (.pointer (some ⟨w.heap.size, 0, none⟩)) ∧ TAt w.heap.size w' w.heap.size (.slice none 0 0) [] ∧ Below w.heap.size w w' := by
  obtain ⟨W1, hW1⟩ : ∃ W1, w.alloc (.cells #[.slice none 0 0] 56) = W1 := ⟨_, rfl⟩
  have hb : Below w.heap.size w W1 := by rw [← hW1]; exact (Below.refl _ w).alloc (Nat.le_refl _) _
  have hn : W1.heap[w.heap.size]? = some (.cells #[.slice none 0 0] 56) := by rw [← hW1]; exact alloc_newM _ _
  have HT : Hid (TAt w.heap.size W1 w.heap.size (.slice none 0 0) [] ∧ Below w.heap.size w W1) := ⟨tab_new hn (Nat.le_refl _) (GOwn.nil _ _ _ _) (by simp [Value.ownBlock]), hb⟩
  rw [← hW1] at HT
  clear hn hb hW1
  go_enter Try.func9, Try.ntmps9
  go_wp2
  go_ret
  exact ⟨rfl, HT.out⟩
/-- What Check answers. -/
def chk (l : List Rw) (id seq : Int) : An × Bool × Int :=
  if hasB l id = true then
    (if seq = 0 ∨ seq < (el l (id - 1).toNat).1 then ((0, 0, 0), false, 151) else if seq = (el l (id - 1).toNat).1 then ((el l (id - 1).toNat).2, true, 0) else ((0, 0, 0), false, 0))
  else ((0, 0, 0), false, 150)
def chkV (r : An × Bool × Int) : Value := .tuple #[valA r.1, .bool r.2.1, .int .i64 r.2.2]
theorem ck_results {tmps : Array Value} {w : World} {rb : Nat} {x : An} (h2 : tmps.getD 6 undef = .pointer (some ⟨rb, 0, none⟩)) (c : CAt w rb 0 (cellsA x)) : (results Try.f17 tmps).run Try.prog w = .ok (.tuple #[valA x, tmps.getD 7 undef, tmps.getD 8 undef]) w := by
  have c0 := c 0 _ rfl
  have c1 := c 1 _ rfl
  have c2 := c 2 _ rfl
  simp only [Nat.add_zero] at c0
  have h2' : tmps[6]?.getD undef = .pointer (some ⟨rb, 0, none⟩) := by simpa using h2
  simp [results, Try.results17, go_sem, h2', c0, c1, c2, valA]
attribute [local go_sem ↓] exec_load_A exec_store_A
set_option maxHeartbeats 1000000 in
theorem Check_any (B : Nat) (w : World) (p : Nat) (v : Value) (l : List Rw) (id seq : Int) (K : TAt B w p v l) (hl : l.length ≤ 1099511627776) : Calls Try.prog 17 #[.pointer (some ⟨p, 0, none⟩), .int .u64 id, .int .u64 seq] w fun e w' => e = .returned (chkV (chk l id seq)) ∧ Below w.heap.size w w' := by
  obtain ⟨V1, hV1⟩ : ∃ V1, w.alloc (.cells #[.int .i64 0, .int .u64 0, .int .i64 0] 32) = V1 := ⟨_, rfl⟩
  have hb1 : Below w.heap.size w V1 := by rw [← hV1]; exact (Below.refl _ w).alloc (Nat.le_refl _) _
  have hn1 : V1.heap[w.heap.size]? = some (.cells #[.int .i64 0, .int .u64 0, .int .i64 0] 32) := by rw [← hV1]; exact alloc_newM _ _
  have HB : Hid (Below w.heap.size w V1) := hb1
  replace K := K.below hb1
  obtain ⟨rb, hrb⟩ : ∃ rb, w.heap.size = rb := ⟨_, rfl⟩
  have HRB : Hid (w.heap.size = rb) := hrb
  rw [hrb] at hn1
  obtain ⟨W, hst, huW, hcW⟩ := own_storeA (ys := [.int .i64 0, .int .u64 0, .int .i64 0]) rfl hn1 (chk l id seq).1
  have HW : Hid (CAt W rb 0 (cellsA (chk l id seq).1)) := cat_new hcW
  have HFIN : Hid (Below w.heap.size w W) := hb1.trans (huW.below (B := w.heap.size) (fun k e => by have : k = rb := e; omega) hb1.size)
  have HH := has_any B V1 p v l id K hl
  clear hb1 hn1 huW hcW
  cases hh : hasB l id with
  | false =>
    rw [hh] at HH
    have hE : chk l id seq = ((0, 0, 0), false, 150) := by unfold chk; rw [hh]; rfl
    rw [hE] at HW hst
    have HE : Hid (chk l id seq = ((0, 0, 0), false, 150)) := hE
    unfold valA at hst
    clear K hE
    go_enter Try.func17, Try.ntmps17
    go_wp2_with (go_at_call 26; refine HH.mono ?_; rintro e w' ⟨rfl, rfl⟩)
    refine bodyPost_ret (ck_results rfl HW.out) rfl ?_
    exact ⟨by rw [HE.out]; rfl, HFIN.out⟩
  | true =>
    rw [hh] at HH
    have hb := hh
    unfold hasB at hb
    rw [decide_eq_true_eq] at hb
    obtain ⟨i, hi⟩ : ∃ i : Nat, (i : Int) + 1 = id := ⟨(id - 1).toNat, by omega⟩
    subst hi
    have hil : i < l.length := by omega
    obtain ⟨g, cap, hv, hg, hg2, hgp, hcap, hc⟩ := K.rw (by omega)
    have HR := row_any B V1 p v l i g cap hv K hil hl
    obtain ⟨c0, c1, c2, c3, _⟩ := hc i hil
    have hE : chk l ((i : Int) + 1) seq = if seq = 0 ∨ seq < (el l i).1 then ((0, 0, 0), false, 151) else if seq = (el l i).1 then ((el l i).2, true, 0) else ((0, 0, 0), false, 0) := by
      unfold chk
      rw [if_pos hh, show ((i : Int) + 1 - 1).toNat = i by omega]
    have hla : loadA Try.prog (.pointer (some ⟨g, i * 4 + 1, none⟩)) V1 = .ok (valA (el l i).2) V1 := loadA_at (fun j u hj => by
      match j, hj with
      | 0, hj => simp [cellsA] at hj; subst hj; exact c1
      | 1, hj => simp [cellsA] at hj; subst hj; exact c2
      | 2, hj => simp [cellsA] at hj; subst hj; exact c3
      | n + 3, hj => simp [cellsA] at hj)
    rw [hE] at HW hst
    have HE : Hid (chk l ((i : Int) + 1) seq = if seq = 0 ∨ seq < (el l i).1 then ((0, 0, 0), false, 151) else if seq = (el l i).1 then ((el l i).2, true, 0) else ((0, 0, 0), false, 0)) := hE
    generalize el l i = x at *
    clear K hc hv hb hh hE c1 c2 c3
    unfold valA at hst hla
    by_cases h1 : seq = 0 ∨ seq < x.1
    · rw [if_pos h1] at HE HW hst
      by_cases h0 : seq = 0
      · subst h0
        go_enter Try.func17, Try.ntmps17
        go_wp2_with (first
          | (go_at_call 26; refine HH.mono ?_; rintro e w' ⟨rfl, rfl⟩)
          | (go_at_call 27; refine HR.mono ?_; rintro e w' ⟨rfl, rfl⟩))
        refine bodyPost_ret (ck_results rfl HW.out) rfl ?_
        exact ⟨by rw [HE.out]; rfl, HFIN.out⟩
      · have h2 : seq < x.1 := h1.resolve_left h0
        go_enter Try.func17, Try.ntmps17
        go_wp2_with (first
          | (go_at_call 26; refine HH.mono ?_; rintro e w' ⟨rfl, rfl⟩)
          | (go_at_call 27; refine HR.mono ?_; rintro e w' ⟨rfl, rfl⟩))
        refine bodyPost_ret (ck_results rfl HW.out) rfl ?_
        exact ⟨by rw [HE.out]; rfl, HFIN.out⟩
    · rw [if_neg h1] at HE HW hst
      have h0 : ¬ seq = 0 := fun e => h1 (.inl e)
      have h2 : ¬ seq < x.1 := fun e => h1 (.inr e)
      by_cases h3 : seq = x.1
      · rw [if_pos h3] at HE HW hst
        go_enter Try.func17, Try.ntmps17
        go_wp2_with (first
          | (go_at_call 26; refine HH.mono ?_; rintro e w' ⟨rfl, rfl⟩)
          | (go_at_call 27; refine HR.mono ?_; rintro e w' ⟨rfl, rfl⟩))
        refine bodyPost_ret (ck_results rfl HW.out) rfl ?_
        exact ⟨by rw [HE.out]; rfl, HFIN.out⟩
      · rw [if_neg h3] at HE HW hst
        have hq0 : (seq == 0) = false := by simpa using h0
        have hq2 : decide (seq < x.1) = false := by simpa using h2
        have hq3 : (seq == x.1) = false := by simpa using h3
        clear h0 h1 h2 h3
        go_enter Try.func17, Try.ntmps17
        go_wp2_with (first
          | (go_at_call 26; refine HH.mono ?_; rintro e w' ⟨rfl, rfl⟩)
          | (go_at_call 27; refine HR.mono ?_; rintro e w' ⟨rfl, rfl⟩))
        refine bodyPost_ret (ck_results rfl HW.out) rfl ?_
        exact ⟨by rw [HE.out]; rfl, HFIN.out⟩
end Se
end Go.Proofs.Ytoiikmfdoadkpaa
