/- The reference of the disk: Sync. -/
import Derived.Test.YtpmmpdkeahmdiaaRefWrite
import Derived.Test.YtpmmpdkeahmdiaaDrawn
namespace Go.Proofs.Ytpmmpdkeahmdiaa
open Go.RowKit
set_option maxRecDepth 100000

/-- A sector with one version that this call has made. -/
def NewStr (n0 : Nat) (W : World) (x : RX) : Prop := ∃ h u, x.lv = .slice (some ⟨h, 0, none⟩) 1 1 ∧ n0 ≤ h ∧ W.heap[h]? = some (.cells #[.string (strB u)] 9 (0, 0)) ∧ x.s.vs = [u]
theorem NewStr.ok {n0 : Nat} {W : World} {x : RX} (h : NewStr n0 W x) (P : Nat → Prop) : x.ok (fun b => P b ∨ n0 ≤ b) W := by
  obtain ⟨h, u, e, h0, hb, hv⟩ := h
  refine ⟨⟨h, 1, by rw [hv]; exact e, .inr h0, (Array.getElem?_eq_some_iff.1 hb).1, fun j z hj => ?_⟩, by rw [hv]; simp, by rw [hv]; simp⟩
  rw [hv] at hj
  match j, hj with
  | 0, hj => simp at hj; subst hj; simp [World.cell?, hb]
  | j + 1, hj => simp at hj
theorem NewStr.same {n0 : Nat} {W W' : World} {x : RX} (h : NewStr n0 W x) (hs : ∀ k : Nat, (∃ C, W.heap[k]? = some (.cells C 9 (0, 0))) → W'.heap[k]? = W.heap[k]?) : NewStr n0 W' x := by
  obtain ⟨h, u, e, h0, hb, hv⟩ := h
  exact ⟨h, u, e, h0, (hs h ⟨_, hb⟩).trans hb, hv⟩
/-- An append to a row of sectors changes no strings. -/
theorem own_strs {B : Nat} {w w' : World} {v : Value} {A : List RX} (hown : SecOwn B w v A) (hk : ∀ k, k < w.heap.size → v.ownBlock ≠ some k → w'.heap[k]? = w.heap[k]?) : ∀ k : Nat, (∃ C, w.heap[k]? = some (.cells C 9 (0, 0))) → w'.heap[k]? = w.heap[k]? := by
  rintro k ⟨C, hC⟩
  refine hk k (Array.getElem?_eq_some_iff.1 hC).1 fun e => ?_
  rcases hown.2 with ⟨e2, _⟩ | ⟨g, cap, cur, e2, _, hg, _⟩
  · rw [e2] at e; simp [Value.ownBlock] at e
  · rw [e2] at e
    simp [Value.ownBlock] at e
    subst e
    rw [hg] at hC
    simp at hC
structure SyncR (P : Nat → Prop) (w w4 : World) (a : Int) (X : List RX) (v7 v8 : Value) (wr : World) (i : Nat) (acc : List RX) : Prop where
  e8 : v8 = .int .i64 i
  hi : i ≤ X.length
  own : SecOwn (w.heap.size + 2) wr v7 acc
  eq : acc.map RX.s = (X.take i).map fun x => syR a x.s
  ok : ∀ x ∈ acc, x.ok P w ∨ NewStr (w.heap.size + 2) wr x
  below : Below (w.heap.size + 2) w4 wr
theorem SyncR.len {P : Nat → Prop} {w w4 : World} {a : Int} {X : List RX} {v7 v8 : Value} {wr : World} {i : Nat} {acc : List RX} (h : SyncR P w w4 a X v7 v8 wr i acc) : acc.length = i := by
  have := congrArg List.length h.eq
  have hi := h.hi
  simp at this
  omega
theorem SyncR.next {P : Nat → Prop} {w w4 : World} {a : Int} {X : List RX} {v7 v8 v7' v8' : Value} {wr wr' : World} {i : Nat} {acc : List RX} {x y : RX} (h : SyncR P w w4 a X v7 v8 wr i acc) (hx : X[i]? = some x) (hy : y.s = syR a x.s)
    (hown : SecOwn (w.heap.size + 2) wr' v7' (acc ++ [y])) (hok : y.ok P w ∨ NewStr (w.heap.size + 2) wr' y) (hst : ∀ k : Nat, (∃ C, wr.heap[k]? = some (.cells C 9 (0, 0))) → wr'.heap[k]? = wr.heap[k]?) (hb : Below (w.heap.size + 2) wr wr') (e8 : v8' = .int .i64 ((i : Int) + 1)) :
    ∃ i' acc', SyncR P w w4 a X v7' v8' wr' i' acc' := by
  have hin := (List.getElem?_eq_some_iff.1 hx).1
  refine ⟨i + 1, acc ++ [y], by rw [e8]; rfl, hin, hown, ?_, fun z hz => ?_, h.below.trans hb⟩
  · rw [List.map_append, h.eq, List.take_add_one, hx, List.map_append, List.map_singleton, hy]
    rfl
  · rcases List.mem_append.1 hz with hz | hz
    · exact (h.ok z hz).imp id (fun q => q.same hst)
    · rw [List.mem_singleton.1 hz]; exact hok
theorem getLast_get {vs : List (List Nat)} (h : vs ≠ []) : vs[vs.length - 1]? = some (vs.getLastD []) := by
  rw [List.getLastD_eq_getLast?, ← List.getLast?_eq_getElem?]
  cases hg : vs.getLast? with
  | none => exact absurd (List.getLast?_eq_none_iff.1 hg) h
  | some v => rfl
/-- The last version of a sector. -/
theorem refLast_rx {P : Nat → Prop} (x : RX) (w : World) (h : x.ok P w) : Calls Try.prog 45 #[x.val] w fun e w' => e = .returned (.string (strB (x.s.vs.getLastD []))) ∧ Below w.heap.size w w' := by
  obtain ⟨⟨g, c, e, _, hg, hc⟩, hne, hl⟩ := h
  have hpos : 0 < x.s.vs.length := List.length_pos_iff.2 hne
  have := refLast_any x.s.area x.s.n g x.s.vs.length c x.s.sy _ w hg hpos (by omega) ⟨_, rfl⟩ (hc _ _ (getLast_get hne))
  unfold rsV at this
  unfold RX.val
  rw [e]
  exact this
end Go.Proofs.Ytpmmpdkeahmdiaa
