/- clear of rows that the call has made; Load. -/
import Derived.Test.YtoiikmfdoadkpaaSeLoad
namespace Go.Proofs.Ytoiikmfdoadkpaa
open Go.RowKit Go.Lib
set_option maxRecDepth 100000
namespace Se
theorem clear_R {B : Nat} {w : World} {ad : Option Addr} {n cap : Nat} {xss : List (List Value)} (h : GOwn 43 4 B w (.slice ad n cap) xss) (hn : n = xss.length) :
    ∃ W, (Builtin.clear_ #[39] 0 #[.slice ad n cap]).run Try.prog w = .ok (.tuple #[]) W ∧ Upd (fun k => (Value.slice ad n cap).ownBlock = some k) w W := by
  subst hn
  obtain ⟨_, hl, ⟨e, h0⟩ | ⟨g, cap', cur, ev, h1, hh, h3, h4, h5, h6⟩⟩ := h
  · simp only [Value.slice.injEq] at e
    obtain ⟨rfl, _, rfl⟩ := e
    rw [h0]
    exact ⟨w, by simp [Builtin.clear_, run_underlying Try.underlying39], Upd.refl _ _⟩
  · simp only [Value.slice.injEq] at ev
    obtain ⟨rfl, _, rfl⟩ := ev
    cases hm : xss.length with
    | zero => exact ⟨w, by simp [Builtin.clear_, run_underlying Try.underlying39], Upd.refl _ _⟩
    | succ m =>
      have hz : ∀ w, (zeroValue 43).run Try.prog w = .ok (.agg #[.int .u64 0, .int .i64 0, .int .u64 0, .int .i64 0]) w := Try.zeroValue43
      let vs := (Builtin.zeroCells (Value.agg #[.int .u64 0, .int .i64 0, .int .u64 0, .int .i64 0]).cells (m + 1)).toList
      have hlen : vs.length = (m + 1) * 4 := by simp [vs, Builtin.zeroCells, Value.cells]
      have hone : ∀ v ∈ vs, v.oneCell' = true := by
        intro v hv
        simp only [vs, Builtin.zeroCells, Value.cells, Array.toList_map, List.mem_map] at hv
        obtain ⟨i, _, rfl⟩ := hv
        have : i % 4 = 0 ∨ i % 4 = 1 ∨ i % 4 = 2 ∨ i % 4 = 3 := by omega
        rcases this with e | e | e | e
        all_goals
          show (Array.getD _ _ _ : Value).oneCell' = true
          simp [e]
          rfl
      have hst := run_storeCells_cells (P := Try.prog) g 0 vs 0 w (fun t ht => by
        have hsz : 0 + 0 + t < cur.size := by omega
        simp [World.cell?, hh]
        omega) (fun t _ => by simp [World.frozen?, hh]) hone
      refine ⟨w.setCells g 0 vs, ?_, Upd.setCells (F := fun k => (Value.slice (some ⟨g, 0, none⟩) (m + 1) cap).ownBlock = some k) (by rfl) _ _ (Upd.refl _ _)⟩
      simp only [Nat.add_zero] at hst
      simp [Builtin.clear_, run_underlying Try.underlying39, hz]
      rw [show (Builtin.zeroCells (Value.agg #[.int .u64 0, .int .i64 0, .int .u64 0, .int .i64 0]).cells (m + 1)).toList = vs from rfl]
      simp [hst]
set_option maxHeartbeats 1000000 in
theorem Load_any (E : Nat) (w : World) (l : List Rw) (v : Value) (h : GRow E 4 w v (l.map cellsR)) (hm : l.length ≤ 4398046511104) :
    Calls Try.prog 13 #[v] w fun e w' => (rightB l = true ∧ ∃ q v', e = .returned (.tuple #[.pointer (some ⟨q, 0, none⟩), .bool true]) ∧ TAt w.heap.size w' q v' l ∧ Below w.heap.size w w') ∨ (rightB l = false ∧ e = .returned (.tuple #[.pointer none, .bool false]) ∧ Below w.heap.size w w') := by
  have HC := cloneR_any E w l v h hm
  obtain ⟨ad0, cap0, rfl⟩ := h.shape
  obtain ⟨B, hB⟩ : ∃ B, w.heap.size = B := ⟨_, rfl⟩
  have HB : Hid (w.heap.size = B) := hB
  rw [hB] at HC ⊢
  rw [List.length_map] at HC ⊢
  have HEND : Hid (∀ v' w', GOwn 43 4 B w' v' (l.map cellsR) → Below B w w' → TAt B (w'.alloc (.cells #[v'] 56)) w'.heap.size v' l ∧ Below B w (w'.alloc (.cells #[v'] 56))) := fun v' w' h1 h2 => by
    have hb : Below w'.heap.size w' (w'.alloc (.cells #[v'] 56)) := (Below.refl _ w').alloc (Nat.le_refl _) _
    have := h2.size
    exact ⟨tab_new (alloc_newM _ _) (by omega) (h1.below hb) (fun e => by have := h1.lt e; omega), h2.trans (hb.mono (by omega))⟩
  have hlen : (l.map cellsR).length = l.length := List.length_map _
  clear h hB
  obtain ⟨r, hr⟩ : ∃ r, rightB l = r := ⟨_, rfl⟩
  have HR : Hid (rightB l = r) := hr
  rw [hr]
  cases r with
  | true =>
    clear hr hlen
    go_enter Try.func13, Try.ntmps13
    go_wp2_with (first
      | (go_at_call 24; go_loud (refine HC.mono ?_; rintro e w1 ⟨v', rfl, h1, h2⟩; obtain ⟨a7, n7, c7, hv7⟩ : ∃ a n c, v' = Value.slice a n c := (by obtain ⟨a, c, e, _⟩ := h1.shape; exact ⟨_, _, _, e⟩); subst hv7; have HT : Hid (TAt B (w1.alloc (.cells #[.slice a7 n7 c7] 56)) w1.heap.size (.slice a7 n7 c7) l ∧ Below B w (w1.alloc (.cells #[.slice a7 n7 c7] 56))) := HEND.out _ _ h1 h2; clear h1 h2))
      | (go_at_call 25; go_loud (refine (right_any _ _ _ _ _ HT.out.1 hm).mono ?_; rintro e w2 ⟨he, hb2⟩; rw [HR.out] at he; subst he)))
    go_returns
    exact .inl ⟨by first | trivial | rfl, _, _, rfl, HT.out.1.below hb2, HT.out.2.trans (hb2.mono (by have := HT.out.2.size; have := HB.out; omega))⟩
  | false =>
    clear hr
    go_enter Try.func13, Try.ntmps13
    go_wp2_with (first
      | (go_at_call 24; go_loud (refine HC.mono ?_; rintro e w1 ⟨v', rfl, h1, h2⟩; obtain ⟨a7, n7, c7, hv7⟩ : ∃ a n c, v' = Value.slice a n c := (by obtain ⟨a, c, e, _⟩ := h1.shape; exact ⟨_, _, _, e⟩); subst hv7; have HT : Hid (TAt B (w1.alloc (.cells #[.slice a7 n7 c7] 56)) w1.heap.size (.slice a7 n7 c7) l ∧ Below B w (w1.alloc (.cells #[.slice a7 n7 c7] 56))) := HEND.out _ _ h1 h2; clear h1 h2))
      | (go_at_call 25; go_loud (refine (right_any _ _ _ _ _ HT.out.1 hm).mono ?_; rintro e w2 ⟨he, hb2⟩; rw [HR.out] at he; subst he; have hT2 := HT.out.1.below hb2; have c2 := hT2.c0; obtain ⟨W, hcl, huW⟩ := clear_R hT2.row (by obtain ⟨_, _, e, _⟩ := hT2.row.shape; simp only [Value.slice.injEq] at e; exact e.2.1); have HW : Hid (Below B w W) := (HT.out.2.trans (hb2.mono (by have := HT.out.2.size; have := HB.out; omega))).trans (huW.below (fun k hk => (hT2.row.block hk).1) (by have := HT.out.2.size; have := hb2.size; have := HB.out; omega)); clear hT2 huW hb2)))
    go_returns
    exact .inr ⟨by first | trivial | rfl, rfl, HW.out⟩
end Se
end Go.Proofs.Ytoiikmfdoadkpaa
