/- Bytes in memory: rows that are read, rows that the call has made, and what a call leaves alone. -/
import Derived.Test.YtpmmpdkeahmdiaaRows
import Derived.WalkKit
import Derived.ProofKit
import Derived.OpenShut
import Derived.WalkSmall
import Derived.Laws.BytesArg
import Derived.Laws.AppendOwnNone
import Derived.Laws.BitsAllLaws
namespace Go.Proofs.Ytpmmpdkeahmdiaa
open Go.RowKit
set_option maxRecDepth 100000

theorem infoByte : (Try.prog.info? 5).map (fun i => (i.zero, i.size, i.bytes)) = some (some (.int .u8 0), 1, 1) := by kernel_rfl
theorem lt_of_cell {w : World} {b o : Nat} {v : Value} (h : w.cell? ⟨b, o, none⟩ = some v) : b < w.heap.size := World.block_lt_of_cell? w ⟨b, o, none⟩ h

/-- A byte as a value. -/
abbrev bv (n : Nat) : Value := .int .u8 (n : Int)

/-- A row of bytes that lies in memory, in a block below N: nothing is said of who made it. -/
def Row (N : Nat) (w : World) (v : Value) (xs : List Nat) : Prop :=
  ∃ ao cap, v = .slice ao xs.length cap ∧ xs.length ≤ cap ∧ (ao = none → cap = 0) ∧ (0 < xs.length → ∃ b off, ao = some ⟨b, off, none⟩ ∧ b < N ∧ ∀ i, i < xs.length → w.cell? ⟨b, off + i, none⟩ = some (bv (xs.getD i 0)))

/-- A row of bytes that the call has made, in a block not below B. -/
def Bytes (B : Nat) (w : World) (v : Value) (xs : List Nat) : Prop := w.ownsRow B 5 1 v xs.length (xs.map bv)

/-- All that was there is as it was, but for block r. -/
structure But (r : Nat) (w w' : World) : Prop where
  os : w'.os = w.os
  tape : w'.tape = w.tape
  output : w'.output = w.output
  size : w.heap.size ≤ w'.heap.size
  block : ∀ k, k < w.heap.size → k ≠ r → w'.heap[k]? = w.heap[k]?

theorem But.refl (r : Nat) (w : World) : But r w w := ⟨rfl, rfl, rfl, Nat.le_refl _, fun _ _ _ => rfl⟩
theorem But.trans {r : Nat} {a b c : World} (h : But r a b) (k : But r b c) : But r a c :=
  ⟨k.os.trans h.os, k.tape.trans h.tape, k.output.trans h.output, Nat.le_trans h.size k.size, fun i hi hr => (k.block i (Nat.lt_of_lt_of_le hi h.size) hr).trans (h.block i hi hr)⟩
theorem But.of_below {r : Nat} {w w' : World} (h : Below w.heap.size w w') : But r w w' := ⟨h.os, h.tape, h.output, h.size, fun k hk _ => h.block k hk⟩
theorem But.below {r B : Nat} {w w' : World} (h : But r w w') (hr : B ≤ r) (hB : B ≤ w.heap.size) : Below B w w' :=
  ⟨h.os, h.tape, h.output, h.size, fun k hk => h.block k (by omega) (by omega)⟩
theorem But.setCell {r : Nat} {a w : World} (h : But r a w) (o : Nat) (u : Value) : But r a (w.setCell ⟨r, o, none⟩ u) :=
  h.trans ⟨rfl, rfl, rfl, by simp [World.setCell], fun k _ hk => Below.heap_setCell _ _ _ _ hk⟩
theorem But.drew {r : Nat} {a w : World} (h : But r a w) : But r a w.drew := ⟨h.os, h.tape, h.output, h.size, h.block⟩
theorem below_drewN {B : Nat} {a w : World} (h : Below B a w) (n : Nat) : Below B a (w.drewN n) := ⟨h.os, h.tape, h.output, h.size, h.block⟩
theorem but_drewN {B : Nat} {a w : World} (h : But B a w) (n : Nat) : But B a (w.drewN n) := ⟨h.os, h.tape, h.output, h.size, h.block⟩

theorem Bytes.nil (B : Nat) (w : World) : Bytes B w (.slice none 0 0) [] := World.ownsRow_nil _ _ _ _
theorem Bytes.but {B r : Nat} {w w' : World} {v : Value} {xs : List Nat} (h : Bytes B w v xs) (hb : But r w w') (hr : r < B) : Bytes B w' v xs := by
  obtain ⟨hl, hn | ⟨g, cap, cur, rfl, h1, hg, h2⟩⟩ := h
  · exact ⟨hl, .inl hn⟩
  · exact ⟨hl, .inr ⟨g, cap, cur, rfl, h1, (hb.block g (Array.getElem?_eq_some_iff.1 hg).1 (by omega)).trans hg, h2⟩⟩
theorem Bytes.below {B : Nat} {w w' : World} {v : Value} {xs : List Nat} (h : Bytes B w v xs) (hb : Below w.heap.size w w') : Bytes B w' v xs := by
  obtain ⟨hl, hn | ⟨g, cap, cur, rfl, h1, hg, h2⟩⟩ := h
  · exact ⟨hl, .inl hn⟩
  · exact ⟨hl, .inr ⟨g, cap, cur, rfl, h1, (hb.block g (Array.getElem?_eq_some_iff.1 hg).1).trans hg, h2⟩⟩
theorem Bytes.mono {B B' : Nat} {w : World} {v : Value} {xs : List Nat} (h : Bytes B w v xs) (hb : B' ≤ B) : Bytes B' w v xs := by
  obtain ⟨hl, hn | ⟨g, cap, cur, rfl, h1, hg, h2⟩⟩ := h
  · exact ⟨hl, .inl hn⟩
  · exact ⟨hl, .inr ⟨g, cap, cur, rfl, Nat.le_trans hb h1, hg, h2⟩⟩
theorem Row.below {N : Nat} {w w' : World} {v : Value} {xs : List Nat} (h : Row N w v xs) (hb : Below N w w') : Row N w' v xs := by
  obtain ⟨ao, cap, rfl, hcap, hno, hc⟩ := h
  refine ⟨ao, cap, rfl, hcap, hno, fun h0 => ?_⟩
  obtain ⟨b, off, rfl, hN, hd⟩ := hc h0
  exact ⟨b, off, rfl, hN, fun i hi => (hb.cell (p := ⟨b, off + i, none⟩) hN).trans (hd i hi)⟩
theorem Row.mono {N M : Nat} {w : World} {v : Value} {xs : List Nat} (h : Row N w v xs) (hN : N ≤ M) : Row M w v xs := by
  obtain ⟨ao, cap, rfl, hcap, hno, hc⟩ := h
  refine ⟨ao, cap, rfl, hcap, hno, fun h0 => ?_⟩
  obtain ⟨b, off, rfl, hb, hd⟩ := hc h0
  exact ⟨b, off, rfl, by omega, hd⟩
theorem Bytes.row {B : Nat} {w : World} {v : Value} {xs : List Nat} (h : Bytes B w v xs) : Row w.heap.size w v xs := by
  obtain ⟨hl, hn | ⟨g, cap, cur, rfl, hb, hg, h1, h2, h3, h4⟩⟩ := h
  · obtain ⟨rfl, h0⟩ := hn
    have e : xs = [] := List.length_eq_zero_iff.1 h0
    subst e
    exact ⟨none, 0, rfl, Nat.le_refl _, fun _ => rfl, fun h => by simp at h⟩
  · refine ⟨some ⟨g, 0, none⟩, cap, rfl, h1, (fun h => by cases h), fun h0 => ⟨g, 0, rfl, (Array.getElem?_eq_some_iff.1 hg).1, fun i hi => ?_⟩⟩
    have hc : cur[i]? = some (bv (xs.getD i 0)) := by
      have e : (cur.toList.take (xs.length * 1))[i]? = (xs.map bv)[i]? := by rw [h4]
      rw [List.getElem?_take, if_pos (by omega)] at e
      rw [← Array.getElem?_toList, e, List.getElem?_map, List.getElem?_eq_getElem hi]
      simp [List.getD_eq_getElem?_getD, List.getElem?_eq_getElem hi]
    simp only [World.cell?, hg, Nat.zero_add]
    simpa using hc
theorem Row.shape {N : Nat} {w : World} {v : Value} {xs : List Nat} (h : Row N w v xs) : ∃ ao cap, v = .slice ao xs.length cap ∧ xs.length ≤ cap := by
  obtain ⟨ao, cap, rfl, hcap, hno, hc⟩ := h; exact ⟨ao, cap, rfl, hcap⟩

/-- Bytes as a string. -/
def strB (xs : List Nat) : ByteArray := strOfNums (xs.map Int.ofNat)
theorem Row.str {N : Nat} {w : World} {v : Value} {xs : List Nat} (h : Row N w v xs) : (convert 36 9 v).run Try.prog w = .ok (.string (strB xs)) w := by
  obtain ⟨ao, cap, rfl, hcap, hno, hc⟩ := h
  by_cases h0 : 0 < xs.length
  · obtain ⟨b, off, rfl, hN, hd⟩ := hc h0
    refine run_convert_bytes_arg w 36 5 Try.underlying36 Try.underlying5 b off xs.length cap (xs.map Int.ofNat) (by simp) (fun i hi => ?_) 9 Try.underlying9
    rw [hd i hi]
    simp [List.getD_eq_getElem?_getD, List.getElem?_eq_getElem hi]
  · obtain rfl : xs = [] := List.length_eq_zero_iff.1 (by omega)
    cases ao with
    | none => exact run_convert_bytes_nil w 36 5 Try.underlying36 Try.underlying5 0 cap 9 Try.underlying9
    | some a =>
      have hl : (loadCells a 0).run Try.prog w = .ok (([] : List Int).map (Value.int .u8)).toArray w := run_loadCells_list (P := Try.prog) w a [] (fun j v hj => by simp at hj)
      show (convert 36 9 (.slice (some a) 0 cap)).run Try.prog w = _
      rw [run_convert_bytes_string w 36 9 5 _ 0 cap Try.underlying36 Try.underlying5 Try.underlying9, run_bytesToString w _ 0 cap [] hl]
      rfl

/-- 'append(p, q...)' where the call has made p and q is any row. -/
theorem append_row {w : World} {ops : Array Oper} {rest : List Oper} {o : Oper} {a : Act} {Q : Exit → Act → World → Prop} (hgd : Region.wanted o (yielded ops a.tmps) = true) (s x : Operand)
    (ho : o.op = .call { callee := .builtin .append, args := #[s, x], argTypes := #[36, 36] }) (B N : Nat) (v v2 : Value) (xs ys : List Nat)
    (hs : a.eval s = v) (hown : Bytes B w v xs) (hx : a.eval x = v2) (hsrc : Row N w v2 ys) (hl : xs.length + ys.length ≤ 140737488355328) (hB : B ≤ w.heap.size)
    (h : ∀ v' w', Bytes B w' v' (xs ++ ys) → Below B w w' → w.grownBy w' v.ownBlock → wpList Try.prog ops Q rest (a.put o.dst v') w') : wpList Try.prog ops Q (o :: rest) a w := by
  obtain ⟨i0, hi, hz0, hz1, hz2⟩ := info_parts infoByte
  refine wpList_step fun K hK => ?_
  rw [if_pos hgd]
  obtain ⟨ao, cap, rfl, hcap, hno, hc⟩ := hsrc
  cases ao with
  | none =>
    have e : ys = [] := by
      cases ys with
      | nil => rfl
      | cons y r => obtain ⟨b, off, e, _⟩ := hc (by simp); cases e
    subst e
    obtain rfl := hno rfl
    have hrun := run_append_owned_none (P := Try.prog) (w := w) B 36 o.type 5 i0 1 Try.underlying36 hi v xs.length (xs.map bv) hown
    unfold Oper.wp
    simp [execOp, ho, resolve, invoke, builtin, hs, hx, hrun, Result.andThen]
    exact hK _ _ (h _ _ (by simpa using hown) (Below.refl _ _) ⟨rfl, rfl, rfl, Nat.le_refl _, fun _ _ _ => rfl⟩)
  | some ad =>
    refine wp_append_own w s x 36 ho B 5 i0 (.int .u8 0) 1 1 Try.underlying36 hi hz0 hz1 hz2 rfl (by decide) v xs.length _ hs hown ad ys.length cap (ys.map bv) hx (by simp) ?_ ?_ ?_ ?_ hB ?_
    · intro j u hj
      have hjl : j < ys.length := by
        have := (List.getElem?_eq_some_iff.1 hj).1
        simpa using this
      obtain ⟨b, off, e2, _, hc2⟩ := hc (by omega)
      obtain rfl := Option.some.inj e2
      have := hc2 j hjl
      have hadd : (⟨b, off, none⟩ : Addr).add j = ⟨b, off + j, none⟩ := by unfold Addr.add; split <;> simp_all
      rw [hadd, this]
      rw [List.getElem?_map, List.getElem?_eq_getElem hjl] at hj
      simp at hj
      rw [← hj]
      simp [List.getD_eq_getElem?_getD, List.getElem?_eq_getElem hjl]
    · intro u hu
      obtain ⟨z, _, rfl⟩ := List.mem_map.1 hu
      rfl
    · unfold maxLen; omega
    · omega
    · intro v' w' h5 h6 _
      refine hK _ _ (h v' w' ?_ ((Below.refl B w).grown h6 hB (fun k hk => (World.ownsRow.lt hown k hk).1)) h6)
      unfold Bytes
      simpa using h5
end Go.Proofs.Ytpmmpdkeahmdiaa
