/- Texts that were written apart, joined. -/
import Derived.Test.YthecngkdmnadoaaGreatRows
import Derived.WalkKit
import Derived.ProofKit
import Derived.OpenShut
import Derived.WalkSmall
import Derived.Laws.BytesArg
import Derived.Laws.AppendOwnNone
import Derived.Laws.BitsAllLaws
import Derived.SizedLaws
import Derived.Deep.DeepHandedRow
import Derived.Deep.Slices
import Derived.Lib.LaidTab
import Derived.Deep.RegionHeld3
/- Bytes in memory: rows that are read, rows that the call has made, and what a call leaves alone. -/
namespace Go.Proofs.YthecngkdmnadoaaGreat
open Go.RowKit
set_option maxRecDepth 100000

theorem infoByte : (Tryz.prog.info? 5).map (fun i => (i.zero, i.size, i.bytes)) = some (some (.int .u8 0), 1, 1) := by kernel_rfl
theorem lt_of_cell {w : World} {b o : Nat} {v : Value} (h : w.cell? ⟨b, o, none⟩ = some v) : b < w.heap.size := World.block_lt_of_cell? w ⟨b, o, none⟩ h

/-- A byte as a value. -/
abbrev bv (n : Nat) : Value := .int .u8 (n : Int)

/-- A row of bytes that lies in memory, in a block below N: nothing is said of who made it. -/
def Row (N : Nat) (w : World) (v : Value) (xs : List Nat) : Prop :=
  ∃ ao cap, v = .slice ao xs.length cap ∧ xs.length ≤ cap ∧ (ao = none → cap = 0) ∧ (0 < xs.length → ∃ b off, ao = some ⟨b, off, none⟩ ∧ b < N ∧ ∀ i, i < xs.length → w.cell? ⟨b, off + i, none⟩ = some (bv (xs.getD i 0)))

/-- A row of bytes that the call has made, in a block not below B. -/
def Bytes (B : Nat) (w : World) (v : Value) (xs : List Nat) : Prop := w.ownsRow B 5 1 v xs.length (xs.map bv)

/-- All that was there is as it was, but for block r. -/
structure But (r : Nat) (w w' : World) : Prop where
  os : w'.os = w.os
  tape : w'.tape = w.tape
  output : w'.output = w.output
  size : w.heap.size ≤ w'.heap.size
  block : ∀ k, k < w.heap.size → k ≠ r → w'.heap[k]? = w.heap[k]?

theorem But.refl (r : Nat) (w : World) : But r w w := ⟨rfl, rfl, rfl, Nat.le_refl _, fun _ _ _ => rfl⟩
theorem But.trans {r : Nat} {a b c : World} (h : But r a b) (k : But r b c) : But r a c :=
  ⟨k.os.trans h.os, k.tape.trans h.tape, k.output.trans h.output, Nat.le_trans h.size k.size, fun i hi hr => (k.block i (Nat.lt_of_lt_of_le hi h.size) hr).trans (h.block i hi hr)⟩
theorem But.of_below {r : Nat} {w w' : World} (h : Below w.heap.size w w') : But r w w' := ⟨h.os, h.tape, h.output, h.size, fun k hk _ => h.block k hk⟩
theorem But.below {r B : Nat} {w w' : World} (h : But r w w') (hr : B ≤ r) (hB : B ≤ w.heap.size) : Below B w w' :=
  ⟨h.os, h.tape, h.output, h.size, fun k hk => h.block k (by omega) (by omega)⟩
theorem But.setCell {r : Nat} {a w : World} (h : But r a w) (o : Nat) (u : Value) : But r a (w.setCell ⟨r, o, none⟩ u) :=
  h.trans ⟨rfl, rfl, rfl, by simp [World.setCell], fun k _ hk => Below.heap_setCell _ _ _ _ hk⟩
theorem But.drew {r : Nat} {a w : World} (h : But r a w) : But r a w.drew := ⟨h.os, h.tape, h.output, h.size, h.block⟩
theorem below_drewN {B : Nat} {a w : World} (h : Below B a w) (n : Nat) : Below B a (w.drewN n) := ⟨h.os, h.tape, h.output, h.size, h.block⟩
theorem but_drewN {B : Nat} {a w : World} (h : But B a w) (n : Nat) : But B a (w.drewN n) := ⟨h.os, h.tape, h.output, h.size, h.block⟩

theorem Bytes.nil (B : Nat) (w : World) : Bytes B w (.slice none 0 0) [] := World.ownsRow_nil _ _ _ _
theorem Bytes.but {B r : Nat} {w w' : World} {v : Value} {xs : List Nat} (h : Bytes B w v xs) (hb : But r w w') (hr : r < B) : Bytes B w' v xs := by
  obtain ⟨hl, hn | ⟨g, cap, cur, rfl, h1, hg, h2⟩⟩ := h
  · exact ⟨hl, .inl hn⟩
  · exact ⟨hl, .inr ⟨g, cap, cur, rfl, h1, (hb.block g (Array.getElem?_eq_some_iff.1 hg).1 (by omega)).trans hg, h2⟩⟩
theorem Bytes.below {B : Nat} {w w' : World} {v : Value} {xs : List Nat} (h : Bytes B w v xs) (hb : Below w.heap.size w w') : Bytes B w' v xs := by
  obtain ⟨hl, hn | ⟨g, cap, cur, rfl, h1, hg, h2⟩⟩ := h
  · exact ⟨hl, .inl hn⟩
  · exact ⟨hl, .inr ⟨g, cap, cur, rfl, h1, (hb.block g (Array.getElem?_eq_some_iff.1 hg).1).trans hg, h2⟩⟩
theorem Bytes.mono {B B' : Nat} {w : World} {v : Value} {xs : List Nat} (h : Bytes B w v xs) (hb : B' ≤ B) : Bytes B' w v xs := by
  obtain ⟨hl, hn | ⟨g, cap, cur, rfl, h1, hg, h2⟩⟩ := h
  · exact ⟨hl, .inl hn⟩
  · exact ⟨hl, .inr ⟨g, cap, cur, rfl, Nat.le_trans hb h1, hg, h2⟩⟩
theorem Row.below {N : Nat} {w w' : World} {v : Value} {xs : List Nat} (h : Row N w v xs) (hb : Below N w w') : Row N w' v xs := by
  obtain ⟨ao, cap, rfl, hcap, hno, hc⟩ := h
  refine ⟨ao, cap, rfl, hcap, hno, fun h0 => ?_⟩
  obtain ⟨b, off, rfl, hN, hd⟩ := hc h0
  exact ⟨b, off, rfl, hN, fun i hi => (hb.cell (p := ⟨b, off + i, none⟩) hN).trans (hd i hi)⟩
theorem Row.mono {N M : Nat} {w : World} {v : Value} {xs : List Nat} (h : Row N w v xs) (hN : N ≤ M) : Row M w v xs := by
  obtain ⟨ao, cap, rfl, hcap, hno, hc⟩ := h
  refine ⟨ao, cap, rfl, hcap, hno, fun h0 => ?_⟩
  obtain ⟨b, off, rfl, hb, hd⟩ := hc h0
  exact ⟨b, off, rfl, by omega, hd⟩
theorem Bytes.row {B : Nat} {w : World} {v : Value} {xs : List Nat} (h : Bytes B w v xs) : Row w.heap.size w v xs := by
  obtain ⟨hl, hn | ⟨g, cap, cur, rfl, hb, hg, h1, h2, h3, h4⟩⟩ := h
  · obtain ⟨rfl, h0⟩ := hn
    have e : xs = [] := List.length_eq_zero_iff.1 h0
    subst e
    exact ⟨none, 0, rfl, Nat.le_refl _, fun _ => rfl, fun h => by simp at h⟩
  · refine ⟨some ⟨g, 0, none⟩, cap, rfl, h1, (fun h => by cases h), fun h0 => ⟨g, 0, rfl, (Array.getElem?_eq_some_iff.1 hg).1, fun i hi => ?_⟩⟩
    have hc : cur[i]? = some (bv (xs.getD i 0)) := by
      have e : (cur.toList.take (xs.length * 1))[i]? = (xs.map bv)[i]? := by rw [h4]
      rw [List.getElem?_take, if_pos (by omega)] at e
      rw [← Array.getElem?_toList, e, List.getElem?_map, List.getElem?_eq_getElem hi]
      simp [List.getD_eq_getElem?_getD, List.getElem?_eq_getElem hi]
    simp only [World.cell?, hg, Nat.zero_add]
    simpa using hc
theorem Row.shape {N : Nat} {w : World} {v : Value} {xs : List Nat} (h : Row N w v xs) : ∃ ao cap, v = .slice ao xs.length cap ∧ xs.length ≤ cap := by
  obtain ⟨ao, cap, rfl, hcap, hno, hc⟩ := h; exact ⟨ao, cap, rfl, hcap⟩

/-- Bytes as a string. -/
def strB (xs : List Nat) : ByteArray := strOfNums (xs.map Int.ofNat)
theorem Row.str {N : Nat} {w : World} {v : Value} {xs : List Nat} (h : Row N w v xs) : (convert 34 9 v).run Tryz.prog w = .ok (.string (strB xs)) w := by
  obtain ⟨ao, cap, rfl, hcap, hno, hc⟩ := h
  by_cases h0 : 0 < xs.length
  · obtain ⟨b, off, rfl, hN, hd⟩ := hc h0
    refine run_convert_bytes_arg w 34 5 Tryz.underlying34 Tryz.underlying5 b off xs.length cap (xs.map Int.ofNat) (by simp) (fun i hi => ?_) 9 Tryz.underlying9
    rw [hd i hi]
    simp [List.getD_eq_getElem?_getD, List.getElem?_eq_getElem hi]
  · obtain rfl : xs = [] := List.length_eq_zero_iff.1 (by omega)
    cases ao with
    | none => exact run_convert_bytes_nil w 34 5 Tryz.underlying34 Tryz.underlying5 0 cap 9 Tryz.underlying9
    | some a =>
      have hl : (loadCells a 0).run Tryz.prog w = .ok (([] : List Int).map (Value.int .u8)).toArray w := run_loadCells_list (P := Tryz.prog) w a [] (fun j v hj => by simp at hj)
      show (convert 34 9 (.slice (some a) 0 cap)).run Tryz.prog w = _
      rw [run_convert_bytes_string w 34 9 5 _ 0 cap Tryz.underlying34 Tryz.underlying5 Tryz.underlying9, run_bytesToString w _ 0 cap [] hl]
      rfl

/-- 'append(p, q...)' where the call has made p and q is any row. -/
theorem append_row {w : World} {ops : Array Oper} {rest : List Oper} {o : Oper} {a : Act} {Q : Exit → Act → World → Prop} (hgd : Region.wanted o (yielded ops a.tmps) = true) (s x : Operand)
    (ho : o.op = .call { callee := .builtin .append, args := #[s, x], argTypes := #[34, 34] }) (B N : Nat) (v v2 : Value) (xs ys : List Nat)
    (hs : a.eval s = v) (hown : Bytes B w v xs) (hx : a.eval x = v2) (hsrc : Row N w v2 ys) (hl : xs.length + ys.length ≤ 140737488355328) (hB : B ≤ w.heap.size)
    (h : ∀ v' w', Bytes B w' v' (xs ++ ys) → Below B w w' → w.grownBy w' v.ownBlock → wpList Tryz.prog ops Q rest (a.put o.dst v') w') : wpList Tryz.prog ops Q (o :: rest) a w := by
  obtain ⟨i0, hi, hz0, hz1, hz2⟩ := info_parts infoByte
  refine wpList_step fun K hK => ?_
  rw [if_pos hgd]
  obtain ⟨ao, cap, rfl, hcap, hno, hc⟩ := hsrc
  cases ao with
  | none =>
    have e : ys = [] := by
      cases ys with
      | nil => rfl
      | cons y r => obtain ⟨b, off, e, _⟩ := hc (by simp); cases e
    subst e
    obtain rfl := hno rfl
    have hrun := run_append_owned_none (P := Tryz.prog) (w := w) B 34 o.type 5 i0 1 Tryz.underlying34 hi v xs.length (xs.map bv) hown
    unfold Oper.wp
    simp [execOp, ho, resolve, invoke, builtin, hs, hx, hrun, Result.andThen]
    exact hK _ _ (h _ _ (by simpa using hown) (Below.refl _ _) ⟨rfl, rfl, rfl, Nat.le_refl _, fun _ _ _ => rfl⟩)
  | some ad =>
    refine wp_append_own w s x 34 ho B 5 i0 (.int .u8 0) 1 1 Tryz.underlying34 hi hz0 hz1 hz2 rfl (by decide) v xs.length _ hs hown ad ys.length cap (ys.map bv) hx (by simp) ?_ ?_ ?_ ?_ hB ?_
    · intro j u hj
      have hjl : j < ys.length := by
        have := (List.getElem?_eq_some_iff.1 hj).1
        simpa using this
      obtain ⟨b, off, e2, _, hc2⟩ := hc (by omega)
      obtain rfl := Option.some.inj e2
      have := hc2 j hjl
      have hadd : (⟨b, off, none⟩ : Addr).add j = ⟨b, off + j, none⟩ := by unfold Addr.add; split <;> simp_all
      rw [hadd, this]
      rw [List.getElem?_map, List.getElem?_eq_getElem hjl] at hj
      simp at hj
      rw [← hj]
      simp [List.getD_eq_getElem?_getD, List.getElem?_eq_getElem hjl]
    · intro u hu
      obtain ⟨z, _, rfl⟩ := List.mem_map.1 hu
      rfl
    · unfold maxLen; omega
    · omega
    · intro v' w' h5 h6 _
      refine hK _ _ (h v' w' ?_ ((Below.refl B w).grown h6 hB (fun k hk => (World.ownsRow.lt hown k hk).1)) h6)
      unfold Bytes
      simpa using h5
end Go.Proofs.YthecngkdmnadoaaGreat

/- What every law of this seat shares: bytes that came in, and a world for the witness. -/
namespace Go.Proofs.YthecngkdmnadoaaGreat
open Go.ChangeShapes Go.WideShapes Go.ChangeAt Go.RowKit
set_option maxRecDepth 100000

theorem own : ownKnob Tryz.prog.godebug = none := by kernel_rfl
theorem laidOut : laidOutB Tryz.prog = true := by kernel_rfl
theorem cellsByte : Tryz.prog.cellsOf 5 = 1 := by kernel_rfl
theorem bytesByte : Tryz.prog.bytesOf 5 = 1 := by kernel_rfl
/-- A world for the witness: the settled one. -/
noncomputable def laidWorld (os : Os) : World := World.holding Tryz.prog os ⟨#[], #[], []⟩

/-- How much of the bulk's bound a row of bytes takes. -/
def big {H : Type} (d : DataW H) : Nat := match d with
  | .slice elems spare => elems.length + spare.length
  | _ => 0

theorem bytes_in {H : Type} {enc : TypeId × Value → H} {W : World} {base : Nat} {v : Value} {d : DataW H} {p : List MemPlace}
    (hok : Value.okWide Tryz.prog W .any base 34 v) (h : DataW.Trod enc Tryz.prog W 0 (fun _ => true) true 34 v d p)
    (hsz : ∀ elems spare, d = .slice elems spare → (elems.length + spare.length) * Tryz.prog.bytesOf 5 ≤ reachBytes) :
    ∃ xs : List Nat, Row W.heap.size W v xs ∧ xs.length ≤ 140737488351232 ∧ (∀ x ∈ xs, x < 256) ∧ xs.length ≤ big d := by
  obtain ⟨a0, len, cap, rfl⟩ := okWide_slice Tryz.underlying34 hok
  obtain ⟨fuel, hf⟩ := h
  rcases open_ints Tryz.underlying34 Tryz.underlying5 cellsByte hf with ⟨hcs, hx⟩ | ⟨a, len', cap', zs, hcs, _, hl, hm, hz, hx, hcell, hwz⟩
  · simp [Value.cells] at hcs
    obtain ⟨rfl, rfl, rfl⟩ := hcs
    exact ⟨[], ⟨none, 0, rfl, Nat.le_refl _, fun _ => rfl, fun h => by (simp at h)⟩, by simp, fun x hx => by (simp at hx), by simp⟩
  · simp [Value.cells] at hcs
    obtain ⟨rfl, rfl, rfl⟩ := hcs
    simp only [Prod.mk.injEq] at hx
    obtain ⟨rfl, _⟩ := hx
    simp only [if_true] at hz
    have hlen : (zs.take len).length = len := by rw [List.length_take]; omega
    have hb : ∀ x ∈ zs, 0 ≤ x ∧ x ≤ 255 := fun x hx => bounds_u8 (hwz x hx)
    have hlen2 : ((zs.take len).map Int.toNat).length = len := by rw [List.length_map, hlen]
    refine ⟨(zs.take len).map Int.toNat, ⟨some a, cap, by rw [hlen2], by omega, fun h => by (cases h), fun h0 => ?_⟩, ?_, ?_, ?_⟩
    · rw [hlen2] at h0
      obtain ⟨b, off, rfl, hc⟩ := ints_at hcell (by omega)
      refine ⟨b, off, rfl, lt_of_cell (hc 0 (by omega)), fun i hi => ?_⟩
      rw [hlen2] at hi
      rw [hc i (by omega)]
      have hz2 : i < zs.length := by omega
      have := hb zs[i] (List.getElem_mem hz2)
      simp [List.getD_eq_getElem?_getD, hi, hz2]
      omega
    · have := hsz _ _ rfl
      rw [bytesByte] at this
      simp only [lits, List.length_map, List.length_take, List.length_drop, reachBytes] at this
      rw [hlen2]
      omega
    · intro x hx
      obtain ⟨z, hz, rfl⟩ := List.mem_map.1 hx
      have := hb z (List.mem_of_mem_take hz)
      omega
    · rw [hlen2]
      simp only [big, lits, List.length_map, List.length_take]
      omega
end Go.Proofs.YthecngkdmnadoaaGreat

/- Regions that draw their order, operation by operation. -/
namespace Go.Proofs.YthecngkdmnadoaaGreat
open Go.RowKit
set_option maxRecDepth 100000
variable {P : Program} {md : Region.Mode} {ops : Array Oper} {Q : Exit → Act → World → Prop} {S : World → Prop}

theorem region_at {id : Nat} {a : Act} {w : World} (k : Nat) (hk : ops.size = k) (hm : P.follows .mixedOrders = true) (hS : S w.drew) (h : S w.drew → wpAnyH P .any ops Q S k (Array.replicate k false) a w.drew) : (Code.region id ops true).wp P Q a w := by
  subst hk; exact wp_region_held_drew hm hS h
theorem take_at {i : Nat} {oi : Oper} {v : Value} {fuel : Nat} {listed : Array Bool} {tmps : Array Value} {df : List Deferred} {w : World} (t : Tmp) (hi : ops[i]? = some oi) (hd : oi.dst = some t)
    (hs : Region.noSelect ops = true) (hf : Region.free md ops listed i = true) (hr : (Region.ready md ops listed).contains i = true)
    (hQ : ∀ c a w, Q (.panic c) (a.put oi.dst v) w → Q (.panic c) a w) (hw : Region.wanted oi (yielded ops tmps) = true) (hy : ∀ w, S w → (execOp (Act.eval { tmps := tmps, defers := df }) oi).run P w = .ok (.value v) w) (hS : S w)
    (h : wpAnyH P md ops Q S fuel (listed.setIfInBounds i true) { tmps := tmps.setIfInBounds t v, defers := df } w) : wpAnyH P md ops Q S (fuel + 1) listed { tmps := tmps, defers := df } w := by
  refine wpAnyH_take hi hs hf hr hQ (.inl ⟨hw, hy⟩) hS ?_
  rw [hd]; exact h
/-- One operation that may come up alone, and gives a value. -/
theorem one_value {i : Nat} {o : Oper} {fuel : Nat} {listed : Array Bool} {tmps : Array Value} {df : List Deferred} {w w' : World} {v : Value} (t : Tmp) (hr : Region.ready md ops listed = [i]) (ho : ops[i]? = some o) (hd : o.dst = some t) (hw : Region.wanted o (yielded ops tmps) = true)
    (hrun : (execOp (Act.eval { tmps := tmps, defers := df }) o).run P w = .ok (.value v) w') (hS : S w') (h : S w' → wpAnyH P md ops Q S fuel (listed.setIfInBounds i true) { tmps := tmps.setIfInBounds t v, defers := df } w') : wpAnyH P md ops Q S (fuel + 1) listed { tmps := tmps, defers := df } w := by
  refine wpAnyH_ready hr (by simp) (AllReadyH.cons ho (fun K hK => ?_) AllReadyH.nil)
  rw [if_pos hw]
  unfold Oper.wp
  rw [hrun, Oper.upon_value, hd]
  exact hK.out _ _ hS h
/-- One of two, each of which gives a value. -/
theorem two_value {i j : Nat} {o o' : Oper} {fuel : Nat} {listed : Array Bool} {tmps : Array Value} {df : List Deferred} {w w1 w2 : World} {v v' : Value} (t t' : Tmp) (hr : Region.ready md ops listed = [i, j]) (ho : ops[i]? = some o) (ho' : ops[j]? = some o') (hd : o.dst = some t) (hd' : o'.dst = some t') (hw : Region.wanted o (yielded ops tmps) = true) (hw' : Region.wanted o' (yielded ops tmps) = true)
    (hrun : (execOp (Act.eval { tmps := tmps, defers := df }) o).run P w = .ok (.value v) w1) (hS : S w1) (h : S w1 → wpAnyH P md ops Q S fuel (listed.setIfInBounds i true) { tmps := tmps.setIfInBounds t v, defers := df } w1)
    (hrun' : (execOp (Act.eval { tmps := tmps, defers := df }) o').run P w = .ok (.value v') w2) (hS' : S w2) (h' : S w2 → wpAnyH P md ops Q S fuel (listed.setIfInBounds j true) { tmps := tmps.setIfInBounds t' v', defers := df } w2) : wpAnyH P md ops Q S (fuel + 1) listed { tmps := tmps, defers := df } w := by
  refine wpAnyH_ready hr (by simp) (AllReadyH.cons ho (fun K hK => ?_) (AllReadyH.cons ho' (fun K hK => ?_) AllReadyH.nil))
  · rw [if_pos hw]
    unfold Oper.wp
    rw [hrun, Oper.upon_value, hd]
    exact hK.out _ _ hS h
  · rw [if_pos hw']
    unfold Oper.wp
    rw [hrun', Oper.upon_value, hd']
    exact hK.out _ _ hS' h'
/-- One operation that may come up alone, whatever it does. -/
theorem one_at {i : Nat} {o : Oper} {fuel : Nat} {listed : Array Bool} {tmps : Array Value} {df : List Deferred} {w : World} (t : Tmp) (hr : Region.ready md ops listed = [i]) (ho : ops[i]? = some o) (hd : o.dst = some t) (hw : Region.wanted o (yielded ops tmps) = true)
    (h : ∀ K : Act → World → Prop, (∀ v w', S w' → (S w' → wpAnyH P md ops Q S fuel (listed.setIfInBounds i true) { tmps := tmps.setIfInBounds t v, defers := df } w') → K (Act.put { tmps := tmps, defers := df } o.dst v) w') → o.wp P { tmps := tmps, defers := df } w K Q) : wpAnyH P md ops Q S (fuel + 1) listed { tmps := tmps, defers := df } w := by
  refine wpAnyH_ready hr (by simp) (AllReadyH.cons ho (fun K hK => ?_) AllReadyH.nil)
  rw [if_pos hw]
  refine h K fun v w' hS h => ?_
  rw [hd]
  exact hK.out _ _ hS h
theorem triv_facts {w : World} (_ : (fun _ : World => True) w) : True := trivial
/-- One of two, whatever they do. -/
theorem two_at {i j : Nat} {o o' : Oper} {fuel : Nat} {listed : Array Bool} {tmps : Array Value} {df : List Deferred} {w : World} (t t' : Tmp) (hr : Region.ready md ops listed = [i, j]) (ho : ops[i]? = some o) (ho' : ops[j]? = some o') (hd : o.dst = some t) (hd' : o'.dst = some t') (hw : Region.wanted o (yielded ops tmps) = true) (hw' : Region.wanted o' (yielded ops tmps) = true)
    (h : ∀ K : Act → World → Prop, (∀ v w', S w' → (S w' → wpAnyH P md ops Q S fuel (listed.setIfInBounds i true) { tmps := tmps.setIfInBounds t v, defers := df } w') → K (Act.put { tmps := tmps, defers := df } o.dst v) w') → o.wp P { tmps := tmps, defers := df } w K Q)
    (h' : ∀ K : Act → World → Prop, (∀ v w', S w' → (S w' → wpAnyH P md ops Q S fuel (listed.setIfInBounds j true) { tmps := tmps.setIfInBounds t' v, defers := df } w') → K (Act.put { tmps := tmps, defers := df } o'.dst v) w') → o'.wp P { tmps := tmps, defers := df } w K Q) : wpAnyH P md ops Q S (fuel + 1) listed { tmps := tmps, defers := df } w := by
  refine wpAnyH_ready hr (by simp) (AllReadyH.cons ho (fun K hK => ?_) (AllReadyH.cons ho' (fun K hK => ?_) AllReadyH.nil))
  · rw [if_pos hw]
    refine h K fun v w' hS h => ?_
    rw [hd]
    exact hK.out _ _ hS h
  · rw [if_pos hw']
    refine h' K fun v w' hS h => ?_
    rw [hd']
    exact hK.out _ _ hS h
/-- One operation without a value. -/
theorem one_skip {i : Nat} {o : Oper} {fuel : Nat} {listed : Array Bool} {tmps : Array Value} {df : List Deferred} {w w' : World} (hr : Region.ready md ops listed = [i]) (ho : ops[i]? = some o) (hd : o.dst = none) (hw : Region.wanted o (yielded ops tmps) = true)
    (hrun : (execOp (Act.eval { tmps := tmps, defers := df }) o).run P w = .ok .skip w') (hS : S w') (h : S w' → wpAnyH P md ops Q S fuel (listed.setIfInBounds i true) { tmps := tmps, defers := df } w') : wpAnyH P md ops Q S (fuel + 1) listed { tmps := tmps, defers := df } w := by
  refine wpAnyH_ready hr (by simp) (AllReadyH.cons ho (fun K hK => ?_) AllReadyH.nil)
  rw [if_pos hw]
  unfold Oper.wp
  rw [hrun, Oper.upon_skip, hd]
  exact hK.out _ _ hS h
theorem wp_val {o : Oper} {a : Act} {w w' : World} {v : Value} {K : Act → World → Prop} (hrun : (execOp a.eval o).run P w = .ok (.value v) w') (h : K (a.put o.dst v) w') : o.wp P a w K Q := by
  unfold Oper.wp
  rw [hrun]
  exact h
theorem wp_enter {o : Oper} {a : Act} {w w0 : World} {K : Act → World → Prop} (f : FuncId) (args : Array Value) (hrun : (execOp a.eval o).run P w = .ok (.enter f args) w0) (h : Calls P f args w0 fun e w' => ∃ v, e = .returned v ∧ K (a.put o.dst v) w') : o.wp P a w K Q := by
  unfold Oper.wp
  rw [hrun, Oper.upon_enter]
  refine h.mono ?_
  rintro e w' ⟨v, rfl, h2⟩
  exact h2
/-- One call of a function. -/
theorem one_call {i : Nat} {o : Oper} {fuel : Nat} {listed : Array Bool} {tmps : Array Value} {df : List Deferred} {w w0 : World} (t : Tmp) (f : FuncId) (args : Array Value) (hr : Region.ready md ops listed = [i]) (ho : ops[i]? = some o) (hd : o.dst = some t) (hw : Region.wanted o (yielded ops tmps) = true)
    (hrun : (execOp (Act.eval { tmps := tmps, defers := df }) o).run P w = .ok (.enter f args) w0)
    (h : Calls P f args w0 fun e w' => ∃ v, e = .returned v ∧ S w' ∧ (S w' → wpAnyH P md ops Q S fuel (listed.setIfInBounds i true) { tmps := tmps.setIfInBounds t v, defers := df } w')) : wpAnyH P md ops Q S (fuel + 1) listed { tmps := tmps, defers := df } w := by
  refine one_at t hr ho hd hw fun K hK => ?_
  unfold Oper.wp
  rw [hrun, Oper.upon_enter]
  refine h.mono ?_
  rintro e w' ⟨v, rfl, hS, h2⟩
  exact hK v w' hS h2
theorem exec_lookup (ρ : Operand → Value) (x y : Operand) (c : Bool) (t : TypeId) (dst : Option Tmp) (ty : TypeId) (pos : String) (af : Array Edge) (g : Option (Nat × Bool)) (w : World) :
    (execOp ρ ⟨dst, .lookup t x y c, ty, pos, af, g⟩).run P w = ((Instr.lookup t (ρ x) (ρ y) c).run P w).andThen (fun v w' => .ok (.value v) w') := by
  simp only [execOp, Sem.run_bind, Sem.run_pure]
end Go.Proofs.YthecngkdmnadoaaGreat

/- A region that draws its order, whose last operation (number z) waits for all others, and changes what they look at. -/
namespace Go.Proofs.YthecngkdmnadoaaGreat
open Go.RowKit
section
variable {P : Program} {md : Region.Mode} {ops : Array Oper} {Q : Exit → Act → World → Prop} {S : World → Prop} {z : Nat}

/-- Whatever order is picked, and S holds behind every operation but z. -/
def wpAnyE (P : Program) (md : Region.Mode) (ops : Array Oper) (Q : Exit → Act → World → Prop) (S : World → Prop) (z : Nat) : Nat → Array Bool → Act → World → Prop
  | 0, listed, a, w => Region.ready md ops listed = [] ∧ Q .normal a w
  | fuel + 1, listed, a, w =>
    (Region.ready md ops listed = [] → Q .normal a w) ∧
    ∀ i ∈ Region.ready md ops listed, wpOp P ops Q i (fun a' w' => (i ≠ z → S w') ∧ wpAnyE P md ops Q S z fuel (listed.setIfInBounds i true) a' w') a w
theorem wpAny_of_E : ∀ (fuel : Nat) (listed : Array Bool) (a : Act) (w : World), wpAnyE P md ops Q S z fuel listed a w → wpAny P md ops Q fuel listed a w
  | 0, _, _, _, h => h
  | fuel + 1, _, _, _, h => ⟨h.1, fun i hi => wpOp_mono (fun a' w' h' => wpAny_of_E fuel _ a' w' h'.2) (h.2 i hi)⟩
/-- Number z waits for number i. -/
def waitsZ (md : Region.Mode) (ops : Array Oper) (z i : Nat) : Bool := ((ops[z]?).map fun o => o.after.any fun e => Region.binds md e && e.on == i).getD false
theorem waitsZ_spec {i : Nat} {listed : Array Bool} (h : waitsZ md ops z i = true) (hz : z ∈ Region.ready md ops listed) : listed.getD i false = true := by
  obtain ⟨_, oz, hoz, hall⟩ := mem_ready.1 hz
  unfold waitsZ at h
  rw [hoz] at h
  simp only [Option.map_some, Option.getD_some, Array.any_eq_true] at h
  obtain ⟨k, hk, he⟩ := h
  simp only [Bool.and_eq_true, beq_iff_eq] at he
  have := hall oz.after[k] (Array.getElem_mem hk) he.1
  rw [he.2] at this
  exact this
theorem wpAnyE_first {i : Nat} {oi : Oper} {v : Value} (hi : ops[i]? = some oi) (hsel : ∀ (j : Nat) (o : Oper) cs b, ops[j]? = some o → o.op ≠ .select cs b)
    (hQ : ∀ c a w, Q (.panic c) (a.put oi.dst v) w → Q (.panic c) a w) (hz : waitsZ md ops z i = true) :
    ∀ (fuel : Nat) (listed : Array Bool) (a : Act) (w : World),
      (∀ j oj, ops[j]? = some oj → j ≠ i → listed.getD j true = false → (∀ e ∈ oj.after, Region.binds md e = true → e.on ≠ i) → oi.apart ops oj = true) →
      i ∈ Region.ready md ops listed → YieldsIf P ops S oi v a → S w →
      wpAnyE P md ops Q S z fuel (listed.setIfInBounds i true) (a.put oi.dst v) w → wpAnyE P md ops Q S z (fuel + 1) listed a w := by
  intro fuel
  induction fuel with
  | zero =>
    intro listed a w _ hr hy hS H
    refine ⟨fun h => (by rw [h] at hr; cases hr), fun j hj => ?_⟩
    by_cases hji : j = i
    · subst hji; exact hy.wpOp hi hS ⟨fun _ => hS, H⟩
    · have := ready_mono hj hji
      rw [H.1] at this
      cases this
  | succ fuel ih =>
    intro listed a w hfree hr hy hS H
    refine ⟨fun h => (by rw [h] at hr; cases hr), fun j hj => ?_⟩
    by_cases hji : j = i
    · subst hji; exact hy.wpOp hi hS ⟨fun _ => hS, H⟩
    · have h1 := H.2 j (ready_mono hj hji)
      obtain ⟨hjun, oj, hoj, hall⟩ := mem_ready.1 hj
      have hnl : listed.getD i false = true → False := fun h1 => by
        have h0 := (mem_ready.1 hr).1
        rcases Nat.lt_or_ge i listed.size with h' | h'
        · simp [h'] at h0 h1; rw [h0] at h1; cases h1
        · simp [Array.getElem?_eq_none h'] at h1
      have hnot : ∀ e ∈ oj.after, Region.binds md e = true → e.on ≠ i := fun e he hb heq => by
        have h1 := hall e he hb
        rw [heq] at h1
        exact hnl h1
      have hjz : j ≠ z := fun e => hnl (waitsZ_spec hz (e ▸ hj))
      have h2 := wpOp_putIf hoj (hfree j oj hoj hji hjun hnot) (fun cs b => hsel i oi cs b hi) (fun cs b => hsel j oj cs b hoj) hQ hy h1
      have hfree' : ∀ k ok, ops[k]? = some ok → k ≠ i → (listed.setIfInBounds j true).getD k true = false →
          (∀ e ∈ ok.after, Region.binds md e = true → e.on ≠ i) → oi.apart ops ok = true := fun k ok hk hki hun hno => by
        refine hfree k ok hk hki ?_ hno
        by_cases hjk : j = k
        · subst hjk; exact hjun
        · rw [getD_set_ne true hjk] at hun; exact hun
      refine wpOp_mono (fun a' w' h3 => ⟨h3.2.1, ih (listed.setIfInBounds j true) a' w' hfree' (ready_mono hr (Ne.symm hji)) h3.1 (h3.2.1 hjz) ?_⟩) h2
      rw [Array.setIfInBounds_comm _ _ hji]
      exact h3.2.2
theorem wpAnyE_take {i : Nat} {oi : Oper} {v : Value} {fuel : Nat} {listed : Array Bool} {a : Act} {w : World} (hi : ops[i]? = some oi) (hz : waitsZ md ops z i = true)
    (hs : Region.noSelect ops = true) (hf : Region.free md ops listed i = true) (hr : (Region.ready md ops listed).contains i = true)
    (hQ : ∀ c a w, Q (.panic c) (a.put oi.dst v) w → Q (.panic c) a w) (hy : YieldsIf P ops S oi v a) (hS : S w)
    (h : wpAnyE P md ops Q S z fuel (listed.setIfInBounds i true) (a.put oi.dst v) w) : wpAnyE P md ops Q S z (fuel + 1) listed a w :=
  wpAnyE_first hi (Region.noSelect_spec hs) hQ hz fuel listed a w (Region.free_spec hi hf) (by simpa using hr) hy hS h
theorem wpAnyE_done {listed : Array Bool} {a : Act} {w : World} (hr : Region.ready md ops listed = []) (h : Q .normal a w) :
    ∀ fuel, wpAnyE P md ops Q S z fuel listed a w
  | 0 => ⟨hr, h⟩
  | _ + 1 => ⟨fun _ => h, by rw [hr]; simp⟩
theorem region_atE {id : Nat} {a : Act} {w : World} (k z : Nat) (hk : ops.size = k) (hm : P.follows .mixedOrders = true) (h : wpAnyE P .any ops Q S z k (Array.replicate k false) a w.drew) : (Code.region id ops true).wp P Q a w := by
  subst hk
  exact wp_region_any hm (wpAny_of_E _ _ _ _ h)
theorem take_atE {i : Nat} {oi : Oper} {v : Value} {fuel : Nat} {listed : Array Bool} {tmps : Array Value} {df : List Deferred} {w : World} (t : Tmp) (hi : ops[i]? = some oi) (hd : oi.dst = some t) (hz : waitsZ md ops z i = true)
    (hs : Region.noSelect ops = true) (hf : Region.free md ops listed i = true) (hr : (Region.ready md ops listed).contains i = true)
    (hQ : ∀ c a w, Q (.panic c) (a.put oi.dst v) w → Q (.panic c) a w) (hw : Region.wanted oi (yielded ops tmps) = true) (hy : ∀ w, S w → (execOp (Act.eval { tmps := tmps, defers := df }) oi).run P w = .ok (.value v) w) (hS : S w)
    (h : wpAnyE P md ops Q S z fuel (listed.setIfInBounds i true) { tmps := tmps.setIfInBounds t v, defers := df } w) : wpAnyE P md ops Q S z (fuel + 1) listed { tmps := tmps, defers := df } w := by
  refine wpAnyE_take hi hz hs hf hr hQ (.inl ⟨hw, hy⟩) hS ?_
  rw [hd]; exact h
/-- One operation that may come up alone. -/
theorem one_atE {i : Nat} {o : Oper} {fuel : Nat} {listed : Array Bool} {a : Act} {w : World} (hr : Region.ready md ops listed = [i]) (ho : ops[i]? = some o) (hw : Region.wanted o (yielded ops a.tmps) = true)
    (h : o.wp P a w (fun a' w' => (i ≠ z → S w') ∧ wpAnyE P md ops Q S z fuel (listed.setIfInBounds i true) a' w') Q) : wpAnyE P md ops Q S z (fuel + 1) listed a w := by
  refine ⟨fun e => (by rw [hr] at e; cases e), fun j hj => ?_⟩
  rw [hr, List.mem_singleton] at hj
  subst hj
  unfold wpOp
  simp only [ho, hw, if_true]
  exact .inl h
theorem one_callE {i : Nat} {o : Oper} {fuel : Nat} {listed : Array Bool} {tmps : Array Value} {df : List Deferred} {w w0 : World} (t : Tmp) (f : FuncId) (args : Array Value) (hr : Region.ready md ops listed = [i]) (ho : ops[i]? = some o) (hd : o.dst = some t) (hw : Region.wanted o (yielded ops tmps) = true)
    (hrun : (execOp (Act.eval { tmps := tmps, defers := df }) o).run P w = .ok (.enter f args) w0)
    (h : Calls P f args w0 fun e w' => ∃ v, e = .returned v ∧ S w' ∧ wpAnyE P md ops Q S z fuel (listed.setIfInBounds i true) { tmps := tmps.setIfInBounds t v, defers := df } w') : wpAnyE P md ops Q S z (fuel + 1) listed { tmps := tmps, defers := df } w := by
  refine one_atE hr ho hw ?_
  unfold Oper.wp
  rw [hrun, Oper.upon_enter]
  refine h.mono ?_
  rintro e w' ⟨v, rfl, hS, h2⟩
  refine ⟨fun _ => hS, ?_⟩
  rw [hd]; exact h2
theorem one_valueE {i : Nat} {o : Oper} {fuel : Nat} {listed : Array Bool} {tmps : Array Value} {df : List Deferred} {w w' : World} {v : Value} (t : Tmp) (hr : Region.ready md ops listed = [i]) (ho : ops[i]? = some o) (hd : o.dst = some t) (hw : Region.wanted o (yielded ops tmps) = true)
    (hrun : (execOp (Act.eval { tmps := tmps, defers := df }) o).run P w = .ok (.value v) w') (hS : S w') (h : wpAnyE P md ops Q S z fuel (listed.setIfInBounds i true) { tmps := tmps.setIfInBounds t v, defers := df } w') : wpAnyE P md ops Q S z (fuel + 1) listed { tmps := tmps, defers := df } w := by
  refine one_atE hr ho hw ?_
  unfold Oper.wp
  rw [hrun, Oper.upon_value, hd]
  exact ⟨fun _ => hS, h⟩
/-- The last one: it has no value. -/
theorem last_skipE {o : Oper} {fuel : Nat} {listed : Array Bool} {a : Act} {w w' : World} (hr : Region.ready md ops listed = [z]) (ho : ops[z]? = some o) (hd : o.dst = none) (hw : Region.wanted o (yielded ops a.tmps) = true)
    (hrun : (execOp a.eval o).run P w = .ok .skip w') (hend : Region.ready md ops (listed.setIfInBounds z true) = []) (h : Q .normal a w') : wpAnyE P md ops Q S z (fuel + 1) listed a w := by
  refine one_atE hr ho hw ?_
  unfold Oper.wp
  rw [hrun]
  simp only [Oper.upon, hd]
  exact ⟨fun e => absurd rfl e, wpAnyE_done hend h _⟩
end
end Go.Proofs.YthecngkdmnadoaaGreat
