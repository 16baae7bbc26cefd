/- A table's Keep. -/
import Derived.Test.YtoiikmfdoadkpaaSeCall
namespace Go.Proofs.Ytoiikmfdoadkpaa
open Go.RowKit Go.Lib
set_option maxRecDepth 100000
namespace Se
/-- Is it kept? -/
def keepB (l : List Rw) (id seq : Int) : Bool := hasB l id && decide ((el l (id - 1).toNat).1 < seq)
def keepL (l : List Rw) (id seq : Int) (a : An) : List Rw := if keepB l id seq = true then l.set (id - 1).toNat (seq, a) else l
attribute [local go_sem ↓] exec_load_A exec_store_A exec_load_R exec_store_R
set_option maxHeartbeats 1000000 in
theorem Keep_any (B : Nat) (w : World) (p : Nat) (v : Value) (l : List Rw) (id seq : Int) (a : An) (K : TAt B w p v l) (hl : l.length ≤ 1099511627776) : Calls Try.prog 18 #[.pointer (some ⟨p, 0, none⟩), .int .u64 id, .int .u64 seq, valA a] w fun e w' => e = .returned (.bool (keepB l id seq)) ∧ TAt B w' p v (keepL l id seq a) ∧ Upd (TF p v) w w' := by
  obtain ⟨V1, hV1⟩ : ∃ V1, w.alloc (.cells #[.int .i64 a.1, .int .u64 a.2.1, .int .i64 a.2.2] 32) = V1 := ⟨_, rfl⟩
  have hb1 : Below w.heap.size w V1 := by rw [← hV1]; exact (Below.refl _ w).alloc (Nat.le_refl _) _
  have hn1 : V1.heap[w.heap.size]? = some (.cells (cellsA a).toArray 32) := by rw [← hV1]; exact alloc_newM _ _
  have K1 := K.below hb1
  have HH := has_any B V1 p v l id K1 hl
  have HN : Hid (TAt B V1 p v l ∧ Upd (TF p v) w V1) := ⟨K1, upd_of_below hb1⟩
  cases hh : hasB l id with
  | false =>
    rw [hh] at HH
    have hK : keepB l id seq = false := by unfold keepB; rw [hh]; rfl
    have hL : keepL l id seq a = l := by unfold keepL; rw [hK]; rfl
    rw [hK, hL]
    unfold valA
    clear K K1 hb1 hn1 hK hL
    go_enter Try.func18, Try.ntmps18
    go_wp2_with (go_at_call 26; refine HH.mono ?_; rintro e w' ⟨rfl, rfl⟩)
    go_ret
    exact ⟨rfl, HN.out⟩
  | true =>
    rw [hh] at HH
    have hb := hh
    unfold hasB at hb
    rw [decide_eq_true_eq] at hb
    obtain ⟨i, hi⟩ : ∃ i : Nat, (i : Int) + 1 = id := ⟨(id - 1).toNat, by omega⟩
    subst hi
    have hil : i < l.length := by omega
    obtain ⟨g, cap, hv, hg, hg2, hgp, hcap, hc⟩ := K1.rw (by omega)
    have HR := row_any B V1 p v l i g cap hv K1 hil hl
    obtain ⟨c0, c1, c2, c3, cf⟩ := hc i hil
    have hK : keepB l ((i : Int) + 1) seq = decide ((el l i).1 < seq) := by
      unfold keepB
      rw [hh, show ((i : Int) + 1 - 1).toNat = i by omega]; rfl
    by_cases h1 : (el l i).1 < seq
    · have hK2 : keepB l ((i : Int) + 1) seq = true := hK.trans (decide_eq_true h1)
      have hL : keepL l ((i : Int) + 1) seq a = l.set i (seq, a) := by unfold keepL; rw [hK2, show ((i : Int) + 1 - 1).toNat = i by omega]; rfl
      rw [hK2, hL]
      unfold valA
      have h1b : ¬ seq ≤ (el l i).1 := by omega
      obtain ⟨V2, hV2⟩ : ∃ V2, V1.drew = V2 := ⟨_, rfl⟩
      have hb2 : Below V1.heap.size V1 V2 := by rw [← hV2]; exact (Below.refl _ V1).drew
      have K2 := K1.below hb2
      have HR2 := row_any B V2 p v l i g cap hv K2 hil hl
      have hla : loadA Try.prog (.pointer (some ⟨w.heap.size, 0, none⟩)) V2 = .ok (valA a) V2 := own_loadA ((hb2.block _ (Array.getElem?_eq_some_iff.1 hn1).1).trans hn1)
      obtain ⟨W, hW⟩ : ∃ W, V2.setCells g (i * 4) (cellsR (seq, a)) = W := ⟨_, rfl⟩
      have hst : storeR Try.prog (.pointer (some ⟨g, i * 4, none⟩)) (valR (seq, a)) V2 = .ok () W := by
        rw [← hW]
        obtain ⟨g', cap', hv', _, _, _, _, hc'⟩ := K2.rw (by omega)
        rw [hv] at hv'
        simp only [Value.slice.injEq, Option.some.injEq, Addr.mk.injEq, and_true, true_and] at hv'
        obtain ⟨rfl, _⟩ := hv'
        obtain ⟨d0, d1, d2, d3, df⟩ := hc' i hil
        exact storeR_at (ys := cellsR (el l i)) rfl (fun j u hj => by
          match j, hj with
          | 0, hj => simp [cellsR] at hj; subst hj; exact d0
          | 1, hj => simp [cellsR] at hj; subst hj; exact d1
          | 2, hj => simp [cellsR] at hj; subst hj; exact d2
          | 3, hj => simp [cellsR] at hj; subst hj; exact d3
          | n + 4, hj => simp [cellsR] at hj) df
      have huW : Upd (fun k => k = g) V2 W := by rw [← hW]; exact Upd.setCells (F := fun k => k = g) rfl _ _ (Upd.refl _ _)
      have hG : GOwn 43 4 B W v ((l.set i (seq, a)).map cellsR) := by
        rw [map_set, ← hW]
        have h := K2.row
        rw [hv] at h ⊢
        exact GOwn.put h (by simp) i (by simpa using hil) _ (cellsR_ok _)
      have hT : TAt B W p v (l.set i (seq, a)) := by
        have hp := huW.block p K2.lt (by show ¬ p = g; omega)
        exact ⟨K2.low, Nat.lt_of_lt_of_le K2.lt huW.size, (World.cell?_of_block (w := V2) hp).trans K2.c0, (World.frozen?_of_block (w := V2) hp).trans K2.f0, hG, K2.ap⟩
      have hU : Upd (TF p v) w W := ((upd_of_below hb1).trans (upd_of_below (F := TF p v) (hb2)) (fun _ _ f => f)).trans huW (fun k _ e => .inr (by rw [hv, show k = g from e]; rfl))
      have HE : Hid (TAt B W p v (l.set i (seq, a)) ∧ Upd (TF p v) w W) := ⟨hT, hU⟩
      obtain ⟨rb, hrb⟩ : ∃ rb, w.heap.size = rb := ⟨_, rfl⟩
      rw [hrb] at hla
      generalize el l i = x at *
      unfold valA at hla
      clear K K1 K2 hb1 hn1 hK hL hc hv hb hh hK2 hG hT hU huW hW hb2
      go_enter Try.func18, Try.ntmps18
      go_wp2_with (first
        | (go_at_call 26; refine HH.mono ?_; rintro e w' ⟨rfl, rfl⟩)
        | (go_at_call 27; refine HR.mono ?_; rintro e w' ⟨rfl, rfl⟩))
      refine region_atE (S := fun W => W = V2) 8 7 rfl mixedP ?_
      rw [hV2]
      clear hV2
      have hSS : V2 = V2 := rfl
      refine take_atE (i := 0) 23 rfl rfl (by kernel_rfl) (by kernel_rfl) (by kernel_rfl) (by kernel_rfl) (fun _ _ _ h => h) (by rfl) (fun w hSw => by (have hSw2 := id hSw; clear hSw; go_simp; first | done | exact rfl)) (by assumption) ?_
      simp only [List.setIfInBounds_toArray, List.set_cons_zero, List.set_cons_succ]
      refine take_atE (i := 1) 24 rfl rfl (by kernel_rfl) (by kernel_rfl) (by kernel_rfl) (by kernel_rfl) (fun _ _ _ h => h) (by rfl) (fun w hSw => by (have hSw2 := id hSw; clear hSw; go_simp; first | done | exact rfl)) (by assumption) ?_
      simp only [List.setIfInBounds_toArray, List.set_cons_zero, List.set_cons_succ]
      refine take_atE (i := 3) 26 rfl rfl (by kernel_rfl) (by kernel_rfl) (by kernel_rfl) (by kernel_rfl) (fun _ _ _ h => h) (by rfl) (fun w hSw => by (have hSw2 := id hSw; clear hSw; go_simp; first | done | exact rfl)) (by assumption) ?_
      simp only [List.setIfInBounds_toArray, List.set_cons_zero, List.set_cons_succ]
      refine take_atE (i := 4) (v := .agg #[.int .i64 a.1, .int .u64 a.2.1, .int .i64 a.2.2]) 27 rfl rfl (by kernel_rfl) (by kernel_rfl) (by kernel_rfl) (by kernel_rfl) (fun _ _ _ h => h) (by rfl) (fun w hSw => by subst hSw; refine (exec_load_A _ _ _ _ _ _ _ _).trans ?_; show (loadA Try.prog (.pointer (some ⟨rb, 0, none⟩)) w).andThen _ = _; rw [hla]; rfl) rfl ?_
      simp only [List.setIfInBounds_toArray, List.set_cons_zero, List.set_cons_succ]
      refine take_atE (i := 5) (v := valR (seq, a)) 28 rfl rfl (by kernel_rfl) (by kernel_rfl) (by kernel_rfl) (by kernel_rfl) (fun _ _ _ h => h) (by rfl) (fun w hSw => by kernel_rfl) rfl ?_
      simp only [List.setIfInBounds_toArray, List.set_cons_zero, List.set_cons_succ]
      refine one_callE (i := 2) (w0 := V2) 25 27 #[.pointer (some ⟨p, 0, none⟩), .int .u64 ((i : Int) + 1)] (by kernel_rfl) rfl rfl (by rfl) (by kernel_rfl) (HR2.mono ?_)
      rintro e w' ⟨rfl, rfl⟩
      refine ⟨_, rfl, rfl, ?_⟩
      simp only [List.setIfInBounds_toArray, List.set_cons_zero, List.set_cons_succ]
      refine one_valueE (i := 6) (v := .pointer (some ⟨g, i * 4, none⟩)) (w' := w') 29 (by kernel_rfl) rfl rfl (by rfl) (by kernel_rfl) rfl ?_
      simp only [List.setIfInBounds_toArray, List.set_cons_zero, List.set_cons_succ]
      refine last_skipE (w' := W) (by kernel_rfl) rfl rfl (by rfl) (by refine (exec_store_R _ _ _ _ _ _ _ _ _).trans ?_; show (storeR Try.prog (.pointer (some ⟨g, i * 4, none⟩)) (valR (seq, a)) w').andThen _ = _; rw [hst]; rfl) (by kernel_rfl) ?_
      go_wp2
      go_ret
      exact ⟨rfl, HE.out⟩
    · have hK2 : keepB l ((i : Int) + 1) seq = false := hK.trans (decide_eq_false h1)
      have hL : keepL l ((i : Int) + 1) seq a = l := by unfold keepL; rw [hK2]; rfl
      rw [hK2, hL]
      have h1b : seq ≤ (el l i).1 := by omega
      generalize el l i = x at *
      unfold valA
      clear K K1 hb1 hn1 hK hL hc hv hb hh hK2
      go_enter Try.func18, Try.ntmps18
      go_wp2_with (first
        | (go_at_call 26; refine HH.mono ?_; rintro e w' ⟨rfl, rfl⟩)
        | (go_at_call 27; refine HR.mono ?_; rintro e w' ⟨rfl, rfl⟩))
      go_ret
      exact ⟨rfl, HN.out⟩
end Se
end Go.Proofs.Ytoiikmfdoadkpaa
