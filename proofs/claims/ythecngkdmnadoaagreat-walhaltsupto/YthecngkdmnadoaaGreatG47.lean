/- Texts that were written apart, joined. -/
import Derived.Test.YthecngkdmnadoaaGreatG25
import Derived.Test.YthecngkdmnadoaaGreatRows
import Derived.Deep.Strs
import Derived.Lib.SmallJoins
import Derived.Test.YthecngkdmnadoaaGreatG45
import Derived.Test.YthecngkdmnadoaaGreatG46
/- A script of calls on a log that came in. -/
namespace Go.Proofs.YthecngkdmnadoaaGreat
open Go.ChangeShapes Go.WideShapes Go.ChangeAt Go.RowKit Go.Deep
set_option maxRecDepth 100000

theorem op5Cells : Tryz.prog.cellsOf 36 = 3 := by kernel_rfl
theorem intCells5 : Tryz.prog.cellsOf 3 = 1 := by kernel_rfl
theorem bytesCells5 : Tryz.prog.cellsOf 34 = 1 := by kernel_rfl
/-- A call on a log. -/
structure Op5 where
  kind : Int
  n : Int
  xs : List Nat
def Op5.fits (o : Op5) : Prop := -9223372036854775808 ≤ o.kind ∧ o.kind ≤ 9223372036854775807 ∧ -9223372036854775808 ≤ o.n ∧ o.n ≤ 9223372036854775807 ∧ o.xs.length ≤ 9223372036854775807 ∧ (∀ x ∈ o.xs, x < 256)
/-- The calls of a script, as they lie in memory. -/
def Script5 (W : World) (v : Value) (L : List Op5) : Prop :=
  ∃ ao cap, v = .slice ao L.length cap ∧ L.length ≤ cap ∧ L.length ≤ 9223372036854775807 ∧ (0 < L.length → ∃ b off, ao = some ⟨b, off, none⟩ ∧ b < W.heap.size ∧ ∀ (i : Nat) (o : Op5), L[i]? = some o → o.fits ∧ ∃ bv,
    W.cell? ⟨b, off + i * 3, none⟩ = some (.int .i64 o.kind) ∧ W.cell? ⟨b, off + i * 3 + 1, none⟩ = some (.int .i64 o.n) ∧ W.cell? ⟨b, off + i * 3 + 2, none⟩ = some bv ∧ Row W.heap.size W bv o.xs)
theorem bulk_pos {H : Type} (d : DataW H) : 1 ≤ Rows.uptoBulk d := by
  cases d with
  | lit l => cases l <;> simp [Rows.uptoBulk]
  | _ => simp [Rows.uptoBulk]
theorem bulk_mul {H : Type} (m : Nat) : ∀ (l : List (DataW H)), (∀ d ∈ l, m ≤ Rows.uptoBulk d) → m * l.length ≤ Rows.uptoBulkAll l
  | [], _ => by simp
  | d :: r, h => by
    have h1 := bulk_mul m r (fun x hx => h x (List.mem_cons_of_mem _ hx))
    have h2 := h d (List.mem_cons_self ..)
    simp only [List.length_cons, Rows.uptoBulkAll, Nat.mul_add, Nat.mul_one]
    omega
theorem bulk_mem {H : Type} : ∀ (l : List (DataW H)) (d : DataW H), d ∈ l → Rows.uptoBulk d ≤ Rows.uptoBulkAll l
  | [], _, h => by cases h
  | e :: r, d, h => by
    simp only [Rows.uptoBulkAll]
    rcases List.mem_cons.1 h with rfl | h1
    · omega
    · have := bulk_mem r d h1
      omega
theorem bytes_at5 {H : Type} {enc : TypeId × Value → H} {W : World} {fuel : Nat} {v : Value} {x : DataW H × List MemPlace}
    (hf : DataW.trod enc Tryz.prog W 0 (fun _ => true) true fuel 34 [v] = some x) : ∃ xs : List Nat, Row W.heap.size W v xs ∧ xs.length ≤ 9223372036854775807 ∧ (∀ x ∈ xs, x < 256) ∧ xs.length ≤ Rows.uptoBulk x.1 := by
  rcases open_ints Tryz.underlying34 Tryz.underlying5 cellsByte hf with ⟨hcs, hx⟩ | ⟨a, len, cap, zs, hcs, _, hl, hm, hz, hx, hcell, hwz⟩
  · simp only [List.cons.injEq, and_true] at hcs
    subst hcs
    exact ⟨[], ⟨none, 0, rfl, Nat.le_refl _, fun _ => rfl, fun h => by (simp at h)⟩, by simp, fun x hx => by (simp at hx), by simp⟩
  · simp only [List.cons.injEq, and_true] at hcs
    subst hcs
    simp only [if_true] at hz
    have hlen : (zs.take len).length = len := by rw [List.length_take]; omega
    have hb : ∀ x ∈ zs, 0 ≤ x ∧ x ≤ 255 := fun x hx => bounds_u8 (hwz x hx)
    have hlen2 : ((zs.take len).map Int.toNat).length = len := by rw [List.length_map, hlen]
    refine ⟨(zs.take len).map Int.toNat, ⟨some a, cap, by rw [hlen2], by omega, fun h => by (cases h), fun h0 => ?_⟩, ?_, ?_, ?_⟩
    · rw [hlen2] at h0
      obtain ⟨b, off, rfl, hc⟩ := ints_at hcell (by omega)
      refine ⟨b, off, rfl, lt_of_cell (hc 0 (by omega)), fun i hi => ?_⟩
      rw [hlen2] at hi
      rw [hc i (by omega)]
      have hz2 : i < zs.length := by omega
      have := hb zs[i] (List.getElem_mem hz2)
      simp [List.getD_eq_getElem?_getD, hi, hz2]
      omega
    · rw [hlen2]
      unfold maxLen at hm
      omega
    · intro x hx
      obtain ⟨z, hz, rfl⟩ := List.mem_map.1 hx
      have := hb z (List.mem_of_mem_take hz)
      omega
    · rw [hlen2, hx]
      have h1 := bulk_mul 1 (lits (H := H) .u8 (zs.take len)) (fun d _ => bulk_pos d)
      simp only [lits, List.length_map] at h1
      simp only [Rows.uptoBulk, lits]
      omega
theorem ops5_in {H : Type} {enc : TypeId × Value → H} {W : World} {base : Nat} {v : Value} {d : DataW H} {p : List MemPlace}
    (hok : Value.okWide Tryz.prog W .any base 23 v) (h : DataW.Trod enc Tryz.prog W 0 (fun _ => true) true 23 v d p) : ∃ L, Script5 W v L ∧ 4 * L.length ≤ Rows.uptoBulk d ∧ ∀ o ∈ L, o.xs.length ≤ Rows.uptoBulk d := by
  obtain ⟨a0, len, cap, rfl⟩ := okWide_slice Tryz.underlying23 hok
  obtain ⟨fuel, hf⟩ := h
  rcases open_slice Tryz.underlying23 hf with ⟨hcs, hx⟩ | ⟨a, len', cap', m, n, D, Pl, hcs, _, hl, hm, hmm, hx, hel⟩
  · simp [Value.cells] at hcs
    obtain ⟨rfl, rfl, rfl⟩ := hcs
    exact ⟨[], ⟨none, 0, rfl, Nat.le_refl _, by simp, fun h => by simp at h⟩, by simp, fun o ho => by cases ho⟩
  · simp [Value.cells] at hcs
    obtain ⟨rfl, rfl, rfl⟩ := hcs
    have hlm : len ≤ m := by rw [hmm]; split <;> omega
    have each : ∀ i, i < m → 4 ≤ Rows.uptoBulk (D i) ∧ ∃ o : Op5, (o.fits ∧ o.xs.length ≤ Rows.uptoBulk (D i)) ∧ ∃ bv, W.cell? (a.add (i * 3)) = some (.int .i64 o.kind) ∧ W.cell? (a.add (i * 3 + 1)) = some (.int .i64 o.n) ∧ W.cell? (a.add (i * 3 + 2)) = some bv ∧ Row W.heap.size W bv o.xs := by
      intro i hi
      obtain ⟨cs', h1, h2⟩ := hel i hi
      rw [op5Cells] at h1
      obtain ⟨_, hlen, hcell⟩ := World.cells?_some h1
      obtain ⟨y0, y1, y2, n2, hxe, _, g0, g1, g2⟩ := trod_struct3 Tryz.underlying36 h2
      match cs', hlen with
      | [v0, v1, v2], _ =>
        simp [intCells5, bytesCells5] at g0 g1 g2
        obtain ⟨z0, e0, _, w0⟩ := DataW.trod_int Tryz.underlying3 g0
        obtain ⟨z1, e1, _, w1⟩ := DataW.trod_int Tryz.underlying3 g1
        obtain ⟨xs, hrow, hxl, hxb, hxbk⟩ := bytes_at5 g2
        have b0 := bounds_i64 w0
        have b1 := bounds_i64 w1
        simp only [List.cons.injEq, and_true] at e0 e1
        subst e0 e1
        have c0 := hcell 0 (by omega)
        have c1 := hcell 1 (by omega)
        have c2 := hcell 2 (by omega)
        rw [add_add] at c0 c1 c2
        simp only [Prod.mk.injEq] at hxe
        have q0 := bulk_pos y0.1
        have q1 := bulk_pos y1.1
        have q2 := bulk_pos y2.1
        refine ⟨?_, ⟨z0, z1, xs⟩, ⟨⟨b0.1, b0.2, b1.1, b1.2, hxl, hxb⟩, ?_⟩, v2, by simpa using c0, by simpa using c1, by simpa using c2, hrow⟩
        all_goals
          rw [hxe.1]
          simp only [Rows.uptoBulk, Rows.uptoBulkAll]
          omega
    have hch : ∃ f : Nat → Op5, ∀ i, i < m → ((f i).fits ∧ (f i).xs.length ≤ Rows.uptoBulk (D i)) ∧ ∃ bv, W.cell? (a.add (i * 3)) = some (.int .i64 (f i).kind) ∧ W.cell? (a.add (i * 3 + 1)) = some (.int .i64 (f i).n) ∧ W.cell? (a.add (i * 3 + 2)) = some bv ∧ Row W.heap.size W bv (f i).xs :=
      ⟨fun i => if hi : i < m then Classical.choose (each i hi).2 else ⟨0, 0, []⟩, fun i hi => by
        simp only [dif_pos hi]
        exact Classical.choose_spec (each i hi).2⟩
    obtain ⟨f, hfe⟩ := hch
    refine ⟨(List.range len).map f, ⟨some a, cap, by simp, by simpa using hl, by unfold maxLen at hm; simp; omega, fun h0 => ?_⟩, ?_, ?_⟩
    · have h0' : 0 < len := by simpa using h0
      obtain ⟨b, off, rfl⟩ : ∃ b off, a = ⟨b, off, none⟩ := by
        obtain ⟨_, bv, c0, _⟩ := hfe 0 (by omega)
        obtain ⟨b, off, sp⟩ := a
        cases sp with
        | none => exact ⟨b, off, rfl⟩
        | some s => exfalso; revert c0; unfold Addr.add World.cell?; split <;> simp
      have hadd : ∀ j, (⟨b, off, none⟩ : Addr).add j = ⟨b, off + j, none⟩ := fun j => by unfold Addr.add; split <;> simp_all
      refine ⟨b, off, rfl, ?_, fun i o hi => ?_⟩
      · obtain ⟨_, bv, c0, _⟩ := hfe 0 (by omega)
        rw [hadd] at c0
        exact lt_of_cell c0
      · rw [List.getElem?_map] at hi
        have hil : i < len := by
          cases hr : (List.range len)[i]? with
          | none => rw [hr] at hi; cases hi
          | some j => have := (List.getElem?_eq_some_iff.1 hr).1; simpa using this
        rw [List.getElem?_range hil] at hi
        simp only [Option.map_some, Option.some.injEq] at hi
        subst hi
        obtain ⟨q1, bv, c0, c1, c2, q2⟩ := hfe i (by omega)
        rw [hadd] at c0 c1 c2
        exact ⟨q1.1, bv, c0, by simpa [Nat.add_assoc] using c1, by simpa [Nat.add_assoc] using c2, q2⟩
    · simp only [Prod.mk.injEq] at hx
      obtain ⟨rfl, _⟩ := hx
      have h1 := bulk_mul 4 ((List.range len).map D) (fun d hd => by
        obtain ⟨i, hi, rfl⟩ := List.mem_map.1 hd
        exact (each i (by have := List.mem_range.1 hi; omega)).1)
      simp only [Rows.uptoBulk, List.length_map, List.length_range] at h1 ⊢
      omega
    · simp only [Prod.mk.injEq] at hx
      obtain ⟨rfl, _⟩ := hx
      intro o ho
      obtain ⟨i, hi, rfl⟩ := List.mem_map.1 ho
      have hil := List.mem_range.1 hi
      have h1 := (hfe i (by omega)).1.2
      have h2 := bulk_mem ((List.range len).map D) (D i) (List.mem_map.2 ⟨i, hi, rfl⟩)
      simp only [Rows.uptoBulk]
      omega
end Go.Proofs.YthecngkdmnadoaaGreat

/- A call on a log whose disk has given an error. -/
namespace Go.Proofs.YthecngkdmnadoaaGreat
open Go.RowKit
set_option maxRecDepth 100000

theorem Append_fault (b : Nat) (n : WN) (v : WV) (w : World) (xv : Value) (hw : WalAt w b n v) (hf : ¬ n.fault = 0) : Calls Tryz.prog 28 #[.pointer (some ⟨b, 0, none⟩), xv] w fun e w' => e = .returned (.int .i64 n.fault) ∧ w' = w := by
  obtain ⟨c0, c1, c2, c3, c4, c5, c6, c7, c8, c9, hz⟩ := hw.cells
  have h1 : (n.fault == 0) = false := by simpa using hf
  have h2 : (n.fault != 0) = true := by simpa using hf
  clear c0 c1 c2 c3 c4 c5 c6 c7 c8 hw
  go_enter Tryz.func28, Tryz.ntmps28
  go_wp2_with fail
  go_ret
  exact ⟨rfl, rfl⟩
def HaltSays (w : World) (e : Ending) (w' : World) : Prop := e = .returned (.int .i64 30) ∧ Below w.heap.size w w'
set_option maxHeartbeats 4000000 in
theorem does5_halt (W0 : World) (N b p : Nat) (k z : Int) (x : List Nat) (xv : Value) (g : LG) (v : WV) (fp : List Nat) (s : List Sv) (w : World) (h : Since W0 N w b p g v fp s) (hx : Row W0.heap.size W0 xv x) (hf : g.fault = 30) (hk0 : 0 ≤ k) (hk4 : k < 4) :
    Calls Tryz.prog 15 #[.pointer (some ⟨b, 0, none⟩), .agg #[.int .i64 k, .int .i64 z, xv]] w (HaltSays w) := by
  obtain ⟨hix, hixl⟩ := ixG_is g z
  obtain ⟨xa, xc, rfl, _⟩ := hx.shape
  have hnf : ¬ g.n.fault = 0 := by show ¬ g.fault = 0; rw [hf]; decide
  have hnv : g.n.fault = 30 := hf
  have HA : Hid (∀ W, Since W0 N W b p g v fp s → Calls Tryz.prog 28 #[.pointer (some ⟨b, 0, none⟩), .slice xa x.length xc] W fun e w' => e = .returned (.int .i64 30) ∧ w' = W) := fun W hW => by rw [← hnv]; exact Append_fault b g.n v W _ hW.log.wal hnf
  have HY : Hid (∀ W, Since W0 N W b p g v fp s → Calls Tryz.prog 24 #[.pointer (some ⟨b, 0, none⟩)] W fun e w' => e = .returned (.int .i64 30) ∧ w' = W) := fun W hW => by rw [← hnv]; exact WSync_fault b g.n v W hW.log.wal hnf
  have HT : Hid (∀ W, Since W0 N W b p g v fp s → Calls Tryz.prog 42 #[.pointer (some ⟨b, 0, none⟩), .int .u64 (ixG g z : Int)] W fun e w' => e = .returned (.int .i64 30) ∧ w' = W) := fun W hW => by rw [← hnv]; exact Truncate_fault b _ g.n v W hW.log.wal hnf
  have HC : Hid (∀ W, Since W0 N W b p g v fp s → Calls Tryz.prog 29 #[.pointer (some ⟨b, 0, none⟩), .int .u64 (ixG g z : Int)] W fun e w' => e = .returned (.int .i64 30) ∧ w' = W) := fun W hW => by rw [← hnv]; exact Compact_fault b _ g.n v W hW.log.wal hnf
  have HS : Hid (∀ ob k, Since W0 N ((w.alloc ob).drewN k) b p g v fp s) := fun ob k => h.on (belowN ((Below.refl _ w).alloc (Nat.le_refl _) _) _)
  have HB : Hid (∀ ob k, Below w.heap.size w ((w.alloc ob).drewN k)) := fun ob k => belowN ((Below.refl _ w).alloc (Nat.le_refl _) _) _
  obtain ⟨i, hi⟩ : ∃ i, ixG g z = i := ⟨_, rfl⟩
  rw [hi] at hix hixl HT HC
  clear h hx hi hnf hnv hf
  have hcase : k = 0 ∨ k = 1 ∨ k = 2 ∨ k = 3 := by omega
  clear hk0 hk4
  rcases hcase with rfl | rfl | rfl | rfl
  · go_enter Tryz.func15, Tryz.ntmps15
    go_wp2_with fail
    go_quiet (first | (go_at_call 16; refine Calls.quiet_of_same (first_since (HS.out _ _) _ rfl)))
    go_wp2_with fail
    refine (HA.out _ (HS.out _ _)).mono ?_
    rintro e w1 ⟨rfl, rfl⟩
    go_wp2_with fail
    go_ret
    exact ⟨rfl, HB.out _ _⟩
  · go_enter Tryz.func15, Tryz.ntmps15
    go_wp2_with fail
    go_quiet (first | (go_at_call 16; refine Calls.quiet_of_same (first_since (HS.out _ _) _ rfl)))
    go_wp2_with fail
    refine (HY.out _ (HS.out _ _)).mono ?_
    rintro e w1 ⟨rfl, rfl⟩
    go_wp2_with fail
    go_ret
    exact ⟨rfl, HB.out _ _⟩
  · go_enter Tryz.func15, Tryz.ntmps15
    go_wp2_with fail
    go_quiet (first | (go_at_call 16; refine Calls.quiet_of_same (first_since (HS.out _ _) _ rfl)))
    go_wp2_with fail
    refine (HT.out _ (HS.out _ _)).mono ?_
    rintro e w1 ⟨rfl, rfl⟩
    go_wp2_with fail
    go_ret
    exact ⟨rfl, HB.out _ _⟩
  · go_enter Tryz.func15, Tryz.ntmps15
    go_wp2_with fail
    go_quiet (first | (go_at_call 16; refine Calls.quiet_of_same (first_since (HS.out _ _) _ rfl)))
    go_wp2_with fail
    refine (HC.out _ (HS.out _ _)).mono ?_
    rintro e w1 ⟨rfl, rfl⟩
    go_wp2_with fail
    go_ret
    exact ⟨rfl, HB.out _ _⟩
end Go.Proofs.YthecngkdmnadoaaGreat

/- WalHalts. -/
namespace Go.Proofs.YthecngkdmnadoaaGreat
open Go.RowKit
set_option maxRecDepth 100000

theorem Since.arm {W0 : World} {N b p : Nat} {w w' : World} {g : LG} {v : WV} {fp : List Nat} {s : List Sv} {d : DS} (h : Since W0 N w b p g v fp s) (hd : DiskAt N w' p d fp) (ho : Only fp w w') : Since W0 N w' b p { g with d := d } v fp s :=
  ⟨h.log.turn ho (by rw [h.p]; exact hd) (fun k hk => .inl hk), h.new, h.below.trans (ho.below h.below.size (fun k hk => h.new k (by simp [logF, hk]))), h.p⟩
/-- What a script's loop keeps. -/
structure HInv (w : World) (b p : Nat) (k : Nat) (K : Nat) (g : LG) (wr : World) : Prop where
  log : ∃ v fp s, Since w (16000 + K * 263200) wr b p g v fp s
  small : GSm (k + 4) g
  recs : GRec g
  di : DI g
theorem HInv.on {w wr w' : World} {b p k K : Nat} {g : LG} (h : HInv w b p k K g wr) (hb : Below wr.heap.size wr w') : HInv w b p k K g w' := by
  obtain ⟨⟨v, fp, s, h1⟩, h2, h3, h4⟩ := h
  exact ⟨⟨v, fp, s, h1.on hb⟩, h2, h3, h4⟩
theorem HInv.next {w wr : World} {b p k K : Nat} {g : LG} (h : HInv w b p k K g wr) : HInv w b p (k + 1) (K + 1) g wr := by
  obtain ⟨⟨v, fp, s, h1⟩, h2, h3, h4⟩ := h
  exact ⟨⟨v, fp, s, h1.more (by omega)⟩, h2.more (by omega), h3, h4⟩
theorem HInv.below {w wr : World} {b p k K : Nat} {g : LG} (h : HInv w b p k K g wr) : Below w.heap.size w wr := by
  obtain ⟨⟨v, fp, s, h1⟩, h2, h3, h4⟩ := h
  exact h1.below
theorem HInv.dead {w wr : World} {b p k K : Nat} {g : LG} (h : HInv w b p k K g wr) : Calls Tryz.prog 34 #[.pointer (some ⟨p, 0, none⟩)] wr fun e w' => e = .returned (.bool g.d.dead) ∧ w' = wr := by
  obtain ⟨⟨v, fp, s, h1⟩, h2, h3, h4⟩ := h
  refine Dead_any (16000 + K * 263200) p g.d fp wr ?_
  have := h1.log.disk
  rwa [h1.p] at this
theorem HInv.steps {w wr : World} {b p k K : Nat} {g : LG} (h : HInv w b p k K g wr) : Calls Tryz.prog 35 #[.pointer (some ⟨p, 0, none⟩)] wr fun e w' => e = .returned (.int .i64 g.d.steps) ∧ w' = wr := by
  obtain ⟨⟨v, fp, s, h1⟩, h2, h3, h4⟩ := h
  refine Steps_any (16000 + K * 263200) p g.d fp wr ?_
  have := h1.log.disk
  rwa [h1.p] at this
theorem HInv.does {w wr : World} {b p k K : Nat} {g : LG} (h : HInv w b p k K g wr) (hk : k ≤ 262144) (hK : K ≤ 262144) (kd z : Int) (x : List Nat) (xv : Value) (hx : Row w.heap.size w xv x) (hl : x.length ≤ 1099511627776) (hlive : g.d.dead = false) :
    Calls Tryz.prog 15 #[.pointer (some ⟨b, 0, none⟩), .agg #[.int .i64 kd, .int .i64 z, xv]] wr fun e w' => e = .returned (.int .i64 (doesG g kd z x).1) ∧ HInv w b p (k + 1) (K + 1) (doesG g kd z x).2 w' := by
  obtain ⟨⟨v, fp, s, h1⟩, h2, h3, h4⟩ := h
  refine (does5_any w _ b p (k + 4) kd z x xv g v fp s wr h1 hx h2 (by omega) (by omega) hl).mono ?_
  rintro e w' ⟨rfl, v', fp', s', h5⟩
  exact ⟨rfl, ⟨v', fp', s', h5.more (by omega)⟩, does_small h2 kd z x (by omega), does_rec h3 kd z x, does_di g kd z x hlive⟩
theorem HInv.halted {w wr : World} {b p k K : Nat} {g : LG} (h : HInv w b p k K g wr) (kd z : Int) (x : List Nat) (xv : Value) (hx : Row w.heap.size w xv x) (hf : g.fault = 30) (k0 : 0 ≤ kd) (k4 : kd < 4) :
    Calls Tryz.prog 15 #[.pointer (some ⟨b, 0, none⟩), .agg #[.int .i64 kd, .int .i64 z, xv]] wr (HaltSays wr) := by
  obtain ⟨⟨v, fp, s, h1⟩, h2, h3, h4⟩ := h
  exact does5_halt w _ b p kd z x xv g v fp s wr h1 hx hf k0 k4
theorem HInv.first {w wr : World} {b p k K : Nat} {g : LG} (h : HInv w b p k K g wr) : Calls Tryz.prog 16 #[.pointer (some ⟨b, 0, none⟩)] wr fun e w' => e = .returned (.int .u64 (g.first : Int)) ∧ w' = wr := by
  obtain ⟨⟨v, fp, s, h1⟩, h2, h3, h4⟩ := h
  exact first_since h1 _ rfl
theorem HInv.all {w wr : World} {b p k K : Nat} {g : LG} (h : HInv w b p k K g wr) (hk : k ≤ 262144) : Calls Tryz.prog 18 #[.pointer (some ⟨b, 0, none⟩)] wr fun e w' => Below wr.heap.size wr w' ∧ ∃ sv, e = .returned sv ∧ StrOwn wr.heap.size w' sv g.L := by
  obtain ⟨⟨v, fp, s, h1⟩, h2, h3, h4⟩ := h
  have := h2.fl
  exact all5_any w _ b p g v fp s wr h1 (by omega) (fun x hx => Nat.le_trans (h3 x hx) (by omega))
theorem HInv.same {w wr : World} {b p k K : Nat} {g : LG} (h : HInv w b p k K g wr) (hk : k ≤ 262144) {Rv : Value} (hR : StrsR wr Rv g.L) : Calls Tryz.prog 20 #[.pointer (some ⟨b, 0, none⟩), .agg #[.int .u64 (g.first : Int), Rv]] wr (SameSays wr) := by
  obtain ⟨⟨v, fp, s, h1⟩, h2, h3, h4⟩ := h
  have := h2.fl
  exact same5_any w _ b p g v fp s wr Rv h1 hR (by omega) (fun x hx => Nat.le_trans (h3 x hx) (by omega))
def armed (g : LG) (at_ : Int) : LG := { g with d := if g.d.dead then g.d else { g.d with armed := decide (0 ≤ at_), ahead := at_ } }
set_option maxHeartbeats 4000000 in
theorem halts_walk (v0 v1 : Value) (at_ : Int) (w : World) (L0 : List Op5) (hS0 : Script5 w v0 L0) (L1 : List Op5) (hS1 : Script5 w v1 L1) (h1 : -9223372036854775808 ≤ at_) (h2 : at_ ≤ 9223372036854775807) (hL : 4 * L0.length + 4 * L1.length ≤ 1048576) (hx0 : ∀ o ∈ L0, o.xs.length ≤ 1048576) (hx1 : ∀ o ∈ L1, o.xs.length ≤ 1048576) :
    Calls Tryz.prog 9 #[v0, v1, .int .i64 at_] w fun e w' => e = .returned (.bool true) ∧ Below w.heap.size w w' := by
  obtain ⟨a0, c0, rfl, hc0, _, hs0⟩ := hS0
  obtain ⟨a1, c1, rfl, hc1, _, hs1⟩ := hS1
  have HC0 : Hid _ := hs0
  have HC1 : Hid _ := hs1
  have HX : Hid ((∀ o ∈ L0, o.xs.length ≤ 1048576) ∧ ∀ o ∈ L1, o.xs.length ≤ 1048576) := ⟨hx0, hx1⟩
  clear hs0 hs1 hx0 hx1
  go_enter Tryz.func9, Tryz.ntmps9
  go_wp2_with fail
  refine (New_any 1073741824 w (by omega) (by omega)).mono ?_
  rintro e w1 ⟨p, fp, rfl, hd1, hb1, hf1⟩
  have HD1 : Hid (DiskAt 0 w1 p (newD 1073741824) fp ∧ Below w.heap.size w w1 ∧ ∀ b ∈ fp, w.heap.size ≤ b) := ⟨hd1, hb1, hf1⟩
  clear hd1 hb1 hf1
  go_wp2_with fail
  refine (alive5_any w1).mono ?_
  rintro e w2 ⟨rfl, hb2⟩
  have hz := zn_open 1073741824 0
  have HO : Hid (Calls Tryz.prog 12 #[.pointer (some ⟨p, 0, none⟩), .int .u64 0, .int .u64 1] w2 fun e w' => ∃ b v fp' s, e = .returned (.tuple #[.pointer (some ⟨b, 0, none⟩), .int .i64 0]) ∧ Since w (0 + 16000) w' b p y0 v fp' s) :=
    open_since (fr := 0) (first := 1) (HD1.out.1.below hb2) (HD1.out.2.1.trans (hb2.mono HD1.out.2.1.size)) HD1.out.2.2 (by omega) (by omega) (by omega) hz.1 hz.2.1 (by rw [hz.2.2.1]; omega) hz.2.2.2 y0_is
  clear hz hb2
  go_wp2_with fail
  refine HO.out.mono ?_
  rintro e w3 ⟨b, v3, fp3, s3, rfl, hs3⟩
  have HS3 : Hid (Since w 16000 w3 b p y0 v3 fp3 s3) := hs3
  clear hs3 HO HD1
  go_wp2_with fail
  refine (Arm_any 16000 p y0.d fp3 at_ w3 (by have := HS3.out.log.disk; rwa [HS3.out.p] at this) h1 h2).mono ?_
  rintro e w4 ⟨rfl, hd4, ho4⟩
  have HI : Hid (HInv w b p 0 0 (armed y0 at_) w4) := by
    refine ⟨⟨v3, fp3, s3, HS3.out.arm hd4 ho4⟩, ⟨y0_small.next, y0_small.fl, y0_small.many, y0_small.pl, y0_small.tl, y0_small.sec⟩, fun x hx => ?_, fun hd => ?_⟩
    · have hx2 : x ∈ y0.L := hx
      rw [y0_rec] at hx2
      cases hx2
    · have hd2 : (if y0.d.dead then y0.d else { y0.d with armed := decide (0 ≤ at_), ahead := at_ }).dead = true := hd
      rw [y0_live.1] at hd2
      rw [if_neg (by decide)] at hd2
      have hd3 : y0.d.dead = true := hd2
      rw [y0_live.1] at hd3
      cases hd3
  clear hd4 ho4 HS3
  go_wp2_with fail
  go_loopw [35] (fun v wr => ∃ (k : Nat) (g : LG), v = .int .i64 k ∧ k ≤ L0.length ∧ HInv w b p k k g wr) (fun v _ => L0.length - (intOf v).toNat)
  case atStart => exact ⟨0, _, rfl, Nat.zero_le _, HI.out⟩
  case round =>
    clear HI
    obtain ⟨k, g, rfl, hk, hi⟩ := hrel
    have HI : Hid (HInv w b p k k g wr) := hi
    have hsz := hi.below.size
    clear hi
    by_cases hlt : k < L0.length
    · obtain ⟨bb, off, rfl, hbw, hel⟩ := HC0.out (by omega)
      obtain ⟨hfit, bv, c0, c1, c2, hrow⟩ := hel k L0[k] (List.getElem?_eq_getElem hlt)
      have hxl := HX.out.1 L0[k] (List.getElem_mem hlt)
      generalize L0[k] = o at *
      obtain ⟨ao2, cap2, rfl, hcap2⟩ := hrow.shape
      have HRow : Hid (Row w.heap.size w (.slice ao2 o.xs.length cap2) o.xs ∧ o.xs.length ≤ 1048576) := ⟨hrow, hxl⟩
      have d0 := (HI.out.below.cell (p := ⟨bb, off + k * 3, none⟩) hbw).trans c0
      have d1 := (HI.out.below.cell (p := ⟨bb, off + k * 3 + 1, none⟩) hbw).trans c1
      have d2 := (HI.out.below.cell (p := ⟨bb, off + k * 3 + 2, none⟩) hbw).trans c2
      have hlt' : (k : Int) < (L0.length : Int) := by omega
      clear hel c0 c1 c2 hfit hrow hxl
      go_wp2_with fail
      obtain ⟨W, hW⟩ : ∃ W, wr.alloc (.cells #[.int .i64 o.kind, .int .i64 o.n, .slice ao2 o.xs.length cap2] 36) = W := ⟨_, rfl⟩
      have hBW : Below wr.heap.size wr W := by rw [← hW]; exact (Below.refl _ wr).alloc (Nat.le_refl _) _
      have hws : wr.heap.size < W.heap.size := by rw [← hW]; simp
      have q0 : W.cell? ⟨wr.heap.size, 0, none⟩ = some (.int .i64 o.kind) := by rw [← hW]; simp
      have q1 : W.cell? ⟨wr.heap.size, 1, none⟩ = some (.int .i64 o.n) := by rw [← hW]; simp
      have q2 : W.cell? ⟨wr.heap.size, 2, none⟩ = some (.slice ao2 o.xs.length cap2) := by rw [← hW]; simp
      rw [hW]
      clear hW d0 d1 d2
      refine (near_any o.kind o.n (.slice ao2 o.xs.length cap2) W).mono ?_
      rintro e w5 ⟨rfl, hb5⟩
      have hB5 : Below wr.heap.size wr w5 := hBW.trans (hb5.mono hBW.size)
      have HI5 : Hid (HInv w b p k k g w5) := HI.out.on hB5
      have g0 := (hb5.cell (p := ⟨wr.heap.size, 0, none⟩) hws).trans q0
      have g1 := (hb5.cell (p := ⟨wr.heap.size, 1, none⟩) hws).trans q1
      have g2 := (hb5.cell (p := ⟨wr.heap.size, 2, none⟩) hws).trans q2
      clear q0 q1 q2 hb5 hB5 hBW hws
      cases hnz : nearZ o.n with
      | false =>
        clear g0 g1 g2
        go_wp2_with fail
        go_roundw
        case rel => exact ⟨k + 1, g, by go_num, by omega, HI5.out.next⟩
        case measure => simp [intOf]; omega
      | true =>
        go_wp2_with fail
        refine HI5.out.dead.mono ?_
        rintro e w6 ⟨rfl, rfl⟩
        cases hdd : g.d.dead with
        | true =>
          clear g0 g1 g2
          go_wp2_with fail
          go_roundw
          case rel => exact ⟨k + 1, g, by go_num, by omega, HI5.out.next⟩
          case measure => simp [intOf]; omega
        | false =>
          have HDD : Hid (g.d.dead = false) := hdd
          go_wp2_with fail
          refine (HI5.out.does (by omega) (by omega) o.kind o.n o.xs _ HRow.out.1 (by have := HRow.out.2; omega) HDD.out).mono ?_
          rintro e w7 ⟨rfl, hi7⟩
          have HI7 : Hid (HInv w b p (k + 1) (k + 1) (doesG g o.kind o.n o.xs).2 w7) := hi7
          clear hi7 g0 g1 g2
          go_wp2_with fail
          go_roundw
          case rel => exact ⟨k + 1, _, by go_num, by omega, HI7.out⟩
          case measure => simp [intOf]; omega
    · have hle : ¬ (k : Int) < (L0.length : Int) := by omega
      go_wp2_with fail
      refine HI.out.dead.mono ?_
      rintro e w6 ⟨rfl, rfl⟩
      cases hdd : g.d.dead with
      | false =>
        go_wp2_with fail
        go_ret
        exact ⟨rfl, HI.out.below⟩
      | true =>
        go_wp2_with fail
        have HF : Hid (g.fault = 30) := HI.out.di hdd
        clear hdd
        refine HI.out.steps.mono ?_
        rintro e w7 ⟨rfl, rfl⟩
        go_wp2_with fail
        refine HI.out.first.mono ?_
        rintro e w7 ⟨rfl, rfl⟩
        go_wp2_with fail
        refine (HI.out.all (by omega)).mono ?_
        rintro e w8 ⟨hb8, sv, rfl, hsv⟩
        have HI8 : Hid (HInv w b p k k g w8) := HI.out.on hb8
        have HR8 : Hid (StrsR w8 sv g.L) := hsv.read
        obtain ⟨sa, sn, sc, rfl⟩ : ∃ (sa : Option Addr) (sn sc : Nat), sv = .slice sa sn sc := by
          obtain ⟨sa, sc, e⟩ := hsv.shape
          exact ⟨sa, _, sc, e⟩
        clear hb8 hsv
        go_wp2_with fail
        obtain ⟨W, hW⟩ : ∃ W, w8.alloc (.cells #[.int .u64 (g.first : Int), .slice sa sn sc] 33) = W := ⟨_, rfl⟩
        have hBW : Below w8.heap.size w8 W := by rw [← hW]; exact (Below.refl _ w8).alloc (Nat.le_refl _) _
        have hws : w8.heap.size < W.heap.size := by rw [← hW]; simp
        have q0 : W.cell? ⟨w8.heap.size, 0, none⟩ = some (.int .u64 (g.first : Int)) := by rw [← hW]; simp
        have q1 : W.cell? ⟨w8.heap.size, 1, none⟩ = some (.slice sa sn sc) := by rw [← hW]; simp
        have HW : Hid (HInv w b p k k g W ∧ StrsR W (.slice sa sn sc) g.L) := ⟨HI8.out.on hBW, HR8.out.below hBW⟩
        rw [hW]
        clear hW hBW HI8 HR8 HI
        obtain ⟨rb, hrb⟩ : ∃ rb, w8.heap.size = rb := ⟨_, rfl⟩
        rw [hrb] at q0 q1 hws ⊢
        clear hrb
        go_loopw [62] (fun v wr => ∃ (j : Nat), v = .int .i64 j ∧ j ≤ L1.length ∧ Below W.heap.size W wr) (fun v _ => L1.length - (intOf v).toNat)
        case atStart => exact ⟨0, rfl, Nat.zero_le _, Below.refl _ _⟩
        case round =>
          obtain ⟨j, rfl, hj, hb⟩ := hrel
          have HB : Hid (Below W.heap.size W wr) := hb
          have hszr := hb.size
          have HIr : Hid (HInv w b p k k g wr) := HW.out.1.on hb
          clear hb
          by_cases hlt1 : j < L1.length
          · obtain ⟨bb, off, rfl, hbw, hel⟩ := HC1.out (by omega)
            obtain ⟨hfit, bv, c0, c1, c2, hrow⟩ := hel j L1[j] (List.getElem?_eq_getElem hlt1)
            generalize L1[j] = o at *
            obtain ⟨ao2, cap2, rfl, hcap2⟩ := hrow.shape
            have HRow : Hid (Row w.heap.size w (.slice ao2 o.xs.length cap2) o.xs) := hrow
            have d0 := (HIr.out.below.cell (p := ⟨bb, off + j * 3, none⟩) hbw).trans c0
            have d1 := (HIr.out.below.cell (p := ⟨bb, off + j * 3 + 1, none⟩) hbw).trans c1
            have d2 := (HIr.out.below.cell (p := ⟨bb, off + j * 3 + 2, none⟩) hbw).trans c2
            have hlt' : (j : Int) < (L1.length : Int) := by omega
            clear hel c0 c1 c2 hfit hrow q0 q1
            go_wp2_with fail
            obtain ⟨W2, hW2⟩ : ∃ W2, wr.alloc (.cells #[.int .i64 o.kind, .int .i64 o.n, .slice ao2 o.xs.length cap2] 36) = W2 := ⟨_, rfl⟩
            have hBW2 : Below wr.heap.size wr W2 := by rw [← hW2]; exact (Below.refl _ wr).alloc (Nat.le_refl _) _
            have hws2 : wr.heap.size < W2.heap.size := by rw [← hW2]; simp
            have q0 : W2.cell? ⟨wr.heap.size, 0, none⟩ = some (.int .i64 o.kind) := by rw [← hW2]; simp
            have q1 : W2.cell? ⟨wr.heap.size, 1, none⟩ = some (.int .i64 o.n) := by rw [← hW2]; simp
            have q2 : W2.cell? ⟨wr.heap.size, 2, none⟩ = some (.slice ao2 o.xs.length cap2) := by rw [← hW2]; simp
            rw [hW2]
            clear hW2 d0 d1 d2
            refine (near_any o.kind o.n (.slice ao2 o.xs.length cap2) W2).mono ?_
            rintro e w5 ⟨rfl, hb5⟩
            have hB5 : Below wr.heap.size wr w5 := hBW2.trans (hb5.mono hBW2.size)
            have HB5 : Hid (Below W.heap.size W w5) := HB.out.trans (hB5.mono HB.out.size)
            have HI5 : Hid (HInv w b p k k g w5) := HIr.out.on hB5
            have g0 := (hb5.cell (p := ⟨wr.heap.size, 0, none⟩) hws2).trans q0
            have g1 := (hb5.cell (p := ⟨wr.heap.size, 1, none⟩) hws2).trans q1
            have g2 := (hb5.cell (p := ⟨wr.heap.size, 2, none⟩) hws2).trans q2
            clear q0 q1 q2 hb5 hB5 hBW2 hws2
            cases hnz : nearZ o.n with
            | false =>
              clear g0 g1 g2
              go_wp2_with fail
              go_roundw
              case rel => exact ⟨j + 1, by go_num, by omega, HB5.out⟩
              case measure => simp [intOf]; omega
            | true =>
              by_cases k0 : 0 ≤ o.kind
              · by_cases k4 : o.kind < 4
                · go_wp2_with fail
                  refine (HI5.out.halted o.kind o.n o.xs _ HRow.out HF.out k0 k4).mono ?_
                  rintro e w7 ⟨rfl, hb7⟩
                  have HB7 : Hid (Below W.heap.size W w7) := HB5.out.trans (hb7.mono HB5.out.size)
                  clear hb7 g0 g1 g2
                  go_wp2_with fail
                  go_roundw
                  case rel => exact ⟨j + 1, by go_num, by omega, HB7.out⟩
                  case measure => simp [intOf]; omega
                · go_wp2_with fail
                  go_roundw
                  case rel => exact ⟨j + 1, by go_num, by omega, HB5.out⟩
                  case measure => simp [intOf]; omega
              · go_wp2_with fail
                go_roundw
                case rel => exact ⟨j + 1, by go_num, by omega, HB5.out⟩
                case measure => simp [intOf]; omega
          · have hle1 : ¬ (j : Int) < (L1.length : Int) := by omega
            have g0 := (HB.out.cell (p := ⟨rb, 0, none⟩) hws).trans q0
            have g1 := (HB.out.cell (p := ⟨rb, 1, none⟩) hws).trans q1
            clear q0 q1
            go_wp2_with fail
            refine HIr.out.steps.mono ?_
            rintro e w9 ⟨rfl, rfl⟩
            go_wp2_with fail
            refine (HIr.out.same (by omega) (HW.out.2.below HB.out)).mono ?_
            rintro e w10 ⟨rfl, hb10⟩
            have HE : Hid (Below w.heap.size w w10) := HIr.out.below.trans (hb10.mono HIr.out.below.size)
            clear hb10
            go_wp2_with fail
            go_ret
            exact ⟨rfl, HE.out⟩
end Go.Proofs.YthecngkdmnadoaaGreat
