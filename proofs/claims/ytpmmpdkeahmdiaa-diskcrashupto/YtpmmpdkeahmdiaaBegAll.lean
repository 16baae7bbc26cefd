/- Texts that were written apart, joined. -/
import Derived.Test.YtpmmpdkeahmdiaaFrame
import Derived.Test.YtpmmpdkeahmdiaaDoes
import Derived.Deep.Strs
import Derived.Lib.SmallJoins
import Derived.Test.YtpmmpdkeahmdiaaRefSyn
import Derived.Deep.RegionHeld3
import Derived.Test.YtpmmpdkeahmdiaaSectors
/- A script of calls that came in. -/
namespace Go.Proofs.Ytpmmpdkeahmdiaa
open Go.ChangeShapes Go.WideShapes Go.ChangeAt Go.RowKit Go.Deep
set_option maxRecDepth 100000

theorem opCells : Try.prog.cellsOf 38 = 4 := by kernel_rfl
theorem intCells : Try.prog.cellsOf 3 = 1 := by kernel_rfl
theorem u64Cells : Try.prog.cellsOf 35 = 1 := by kernel_rfl
theorem bytesCells : Try.prog.cellsOf 36 = 1 := by kernel_rfl

/-- The calls of a script, as they lie in memory. -/
def Script (W : World) (v : Value) (L : List OpC) : Prop :=
  ∃ ao cap, v = .slice ao L.length cap ∧ L.length ≤ cap ∧ L.length ≤ 9223372036854775807 ∧ (0 < L.length → ∃ b off, ao = some ⟨b, off, none⟩ ∧ b < W.heap.size ∧ ∀ (i : Nat) (o : OpC), L[i]? = some o → o.fits ∧ ∃ bv,
    W.cell? ⟨b, off + i * 4, none⟩ = some (.int .i64 o.kind) ∧ W.cell? ⟨b, off + i * 4 + 1, none⟩ = some (.int .u64 o.area) ∧ W.cell? ⟨b, off + i * 4 + 2, none⟩ = some (.int .i64 o.n) ∧ W.cell? ⟨b, off + i * 4 + 3, none⟩ = some bv ∧ Row W.heap.size W bv o.xs)

theorem bytes_at {H : Type} {enc : TypeId × Value → H} {W : World} {fuel : Nat} {v : Value} {x : DataW H × List MemPlace}
    (hf : DataW.trod enc Try.prog W 0 (fun _ => true) true fuel 36 [v] = some x) : ∃ xs : List Nat, Row W.heap.size W v xs ∧ xs.length ≤ 9223372036854775807 ∧ (∀ x ∈ xs, x < 256) := by
  rcases open_ints Try.underlying36 Try.underlying5 cellsByte hf with ⟨hcs, hx⟩ | ⟨a, len, cap, zs, hcs, _, hl, hm, hz, hx, hcell, hwz⟩
  · simp only [List.cons.injEq, and_true] at hcs
    subst hcs
    exact ⟨[], ⟨none, 0, rfl, Nat.le_refl _, fun _ => rfl, fun h => by (simp at h)⟩, by simp, fun x hx => by (simp at hx)⟩
  · simp only [List.cons.injEq, and_true] at hcs
    subst hcs
    simp only [if_true] at hz
    have hlen : (zs.take len).length = len := by rw [List.length_take]; omega
    have hb : ∀ x ∈ zs, 0 ≤ x ∧ x ≤ 255 := fun x hx => bounds_u8 (hwz x hx)
    have hlen2 : ((zs.take len).map Int.toNat).length = len := by rw [List.length_map, hlen]
    refine ⟨(zs.take len).map Int.toNat, ⟨some a, cap, by rw [hlen2], by omega, fun h => by (cases h), fun h0 => ?_⟩, ?_, ?_⟩
    · rw [hlen2] at h0
      obtain ⟨b, off, rfl, hc⟩ := ints_at hcell (by omega)
      refine ⟨b, off, rfl, lt_of_cell (hc 0 (by omega)), fun i hi => ?_⟩
      rw [hlen2] at hi
      rw [hc i (by omega)]
      have hz2 : i < zs.length := by omega
      have := hb zs[i] (List.getElem_mem hz2)
      simp [List.getD_eq_getElem?_getD, hi, hz2]
      omega
    · rw [hlen2]
      unfold maxLen at hm
      omega
    · intro x hx
      obtain ⟨z, hz, rfl⟩ := List.mem_map.1 hx
      have := hb z (List.mem_of_mem_take hz)
      omega
theorem ops_in {H : Type} {enc : TypeId × Value → H} {W : World} {base : Nat} {v : Value} {d : DataW H} {p : List MemPlace}
    (hok : Value.okWide Try.prog W .any base 22 v) (h : DataW.Trod enc Try.prog W 0 (fun _ => true) true 22 v d p) : ∃ L, Script W v L ∧ L.length ≤ big d := by
  obtain ⟨a0, len, cap, rfl⟩ := okWide_slice Try.underlying22 hok
  obtain ⟨fuel, hf⟩ := h
  rcases open_slice Try.underlying22 hf with ⟨hcs, hx⟩ | ⟨a, len', cap', m, n, D, Pl, hcs, _, hl, hm, hmm, hx, hel⟩
  · simp [Value.cells] at hcs
    obtain ⟨rfl, rfl, rfl⟩ := hcs
    exact ⟨[], ⟨none, 0, rfl, Nat.le_refl _, by simp, fun h => by simp at h⟩, by simp⟩
  · simp [Value.cells] at hcs
    obtain ⟨rfl, rfl, rfl⟩ := hcs
    have hlm : len ≤ m := by rw [hmm]; split <;> omega
    have each : ∀ i, i < m → ∃ o : OpC, o.fits ∧ ∃ bv, W.cell? (a.add (i * 4)) = some (.int .i64 o.kind) ∧ W.cell? (a.add (i * 4 + 1)) = some (.int .u64 o.area) ∧ W.cell? (a.add (i * 4 + 2)) = some (.int .i64 o.n) ∧ W.cell? (a.add (i * 4 + 3)) = some bv ∧ Row W.heap.size W bv o.xs := by
      intro i hi
      obtain ⟨cs', h1, h2⟩ := hel i hi
      rw [opCells] at h1
      obtain ⟨_, hlen, hcell⟩ := World.cells?_some h1
      obtain ⟨y0, y1, y2, y3, n2, _, _, g0, g1, g2, g3⟩ := Go.Joins.trod_struct4 Try.underlying38 h2
      match cs', hlen with
      | [v0, v1, v2, v3], _ =>
        simp [intCells, u64Cells, bytesCells] at g0 g1 g2 g3
        obtain ⟨z0, e0, _, w0⟩ := DataW.trod_int Try.underlying3 g0
        obtain ⟨z1, e1, _, w1⟩ := DataW.trod_int Try.underlying35 g1
        obtain ⟨z2, e2, _, w2⟩ := DataW.trod_int Try.underlying3 g2
        obtain ⟨xs, hrow, hxl, hxb⟩ := bytes_at g3
        have b1 := bounds_u64 w1
        have b2 := bounds_i64 w2
        simp only [List.cons.injEq, and_true] at e0 e1 e2
        subst e0 e1 e2
        have c0 := hcell 0 (by omega)
        have c1 := hcell 1 (by omega)
        have c2 := hcell 2 (by omega)
        have c3 := hcell 3 (by omega)
        rw [add_add] at c0 c1 c2 c3
        exact ⟨⟨z0, z1, z2, xs⟩, ⟨b2.1, b2.2, b1.1, b1.2, hxl, hxb⟩, v3, by simpa using c0, by simpa using c1, by simpa using c2, by simpa using c3, hrow⟩
    have hch : ∃ f : Nat → OpC, ∀ i, i < m → (f i).fits ∧ ∃ bv, W.cell? (a.add (i * 4)) = some (.int .i64 (f i).kind) ∧ W.cell? (a.add (i * 4 + 1)) = some (.int .u64 (f i).area) ∧ W.cell? (a.add (i * 4 + 2)) = some (.int .i64 (f i).n) ∧ W.cell? (a.add (i * 4 + 3)) = some bv ∧ Row W.heap.size W bv (f i).xs :=
      ⟨fun i => if hi : i < m then Classical.choose (each i hi) else ⟨0, 0, 0, []⟩, fun i hi => by
        simp only [dif_pos hi]
        exact Classical.choose_spec (each i hi)⟩
    obtain ⟨f, hfe⟩ := hch
    refine ⟨(List.range len).map f, ⟨some a, cap, by simp, by simpa using hl, by unfold maxLen at hm; simp; omega, fun h0 => ?_⟩, ?_⟩
    · have h0' : 0 < len := by simpa using h0
      obtain ⟨b, off, rfl⟩ : ∃ b off, a = ⟨b, off, none⟩ := by
        obtain ⟨_, bv, c0, _⟩ := hfe 0 (by omega)
        obtain ⟨b, off, sp⟩ := a
        cases sp with
        | none => exact ⟨b, off, rfl⟩
        | some s => exfalso; revert c0; unfold Addr.add World.cell?; split <;> simp
      have hadd : ∀ j, (⟨b, off, none⟩ : Addr).add j = ⟨b, off + j, none⟩ := fun j => by unfold Addr.add; split <;> simp_all
      refine ⟨b, off, rfl, ?_, fun i o hi => ?_⟩
      · obtain ⟨_, bv, c0, _⟩ := hfe 0 (by omega)
        rw [hadd] at c0
        exact lt_of_cell c0
      · rw [List.getElem?_map] at hi
        have hil : i < len := by
          cases hr : (List.range len)[i]? with
          | none => rw [hr] at hi; cases hi
          | some j => have := (List.getElem?_eq_some_iff.1 hr).1; simpa using this
        rw [List.getElem?_range hil] at hi
        simp only [Option.map_some, Option.some.injEq] at hi
        subst hi
        obtain ⟨q1, bv, c0, c1, c2, c3, q2⟩ := hfe i (by omega)
        rw [hadd] at c0 c1 c2 c3
        exact ⟨q1, bv, c0, by simpa [Nat.add_assoc] using c1, by simpa [Nat.add_assoc] using c2, by simpa [Nat.add_assoc] using c3, q2⟩
    · simp only [Prod.mk.injEq] at hx
      obtain ⟨rfl, _⟩ := hx
      simp [big]
end Go.Proofs.Ytpmmpdkeahmdiaa

/- A disk behind calls, and the document's. -/
namespace Go.Proofs.Ytpmmpdkeahmdiaa
open Go.RowKit
set_option maxRecDepth 100000

attribute [local go_sem ↓] exec_alloc_D exec_box_D exec_load_D exec_store_D
attribute [local go_sem] rdV_cells rdC_0 rdC_1 rdC_2 rdC_3 rdC_4 rdC_5
theorem row_xx {W w : World} {fp : List Nat} {y : Value} {xs : List Nat} (h : Row W.heap.size W y xs) (hb : Below W.heap.size W w) (hf : ∀ b ∈ fp, W.heap.size ≤ b) : RowX fp w y xs := by
  refine ⟨(h.below hb).mono hb.size, fun b off len cap e h0 hm => ?_⟩
  obtain ⟨ao, cap', rfl, _, _, hc⟩ := h
  obtain ⟨b', off', e', hN, _⟩ := hc h0
  simp only [Value.slice.injEq] at e
  rw [e'] at e
  simp only [Option.some.injEq, Addr.mk.injEq] at e
  have := hf b hm
  omega
theorem retD3 {fn : Func} {R : Ending → World → Prop} {a : Act} {w : World} {b t u u' : Nat} {r : RD} {ad : Option Addr} {n c : Nat} {x y : Value} (hf : fn.results = #[.tmp u, .cell t 27, .tmp u']) (hu : a.tmps[u]? = some x) (ht : a.tmps[t]? = some (.pointer (some ⟨b, 0, none⟩))) (hu' : a.tmps[u']? = some y)
    (hb : DskAt w b r (.slice ad n c)) (hd : a.defers = []) (hR : R (.returned (.tuple #[x, rdV r (.slice ad n c), y])) w) : bodyPost Try.prog fn R .ret a w := by
  obtain ⟨c0, c1, c2, c3, c4, c5, cz⟩ := six_cells hb
  refine bodyPost_ret ?_ hd hR
  unfold rdV
  simp [results, hf, ht, hu, hu', go_sem, c0, c1, c2, c3, c4, c5]
  try rfl
/-- The disk behind the calls of a script. -/
def behind (room : Int) (L : List OpC) : DS := L.foldl doD (newD room)
theorem behind_snoc (room : Int) {L : List OpC} {k : Nat} {o : OpC} (h : L[k]? = some o) : behind room (L.take (k + 1)) = doD (behind room (L.take k)) o := by
  rw [behind, List.take_add_one, h, Option.toList_some, List.foldl_append]; rfl
theorem new_ok (room : Int) : SecsOk (newD room).secs := fun s hs => by cases hs
theorem behind_ok (room : Int) (L : List OpC) : SecsOk (behind room L).secs := by
  unfold behind
  suffices h : ∀ (L : List OpC) (d : DS), SecsOk d.secs → SecsOk (L.foldl doD d).secs from h L _ (new_ok room)
  intro L
  induction L with
  | nil => intro d h; exact h
  | cons o r ih => intro d h; exact ih _ (doD_ok o h)
structure BegR (w : World) (n0 br p : Nat) (d : DS) (wr : World) (k : Nat) (fp : List Nat) (ad : Option Addr) (n c : Nat) : Prop where
  dk : DiskAt k wr p d fp
  ref : RefIs (fun b => b ≠ br ∧ b ≠ n0 ∧ b ∉ fp) wr (rdV (rdOf d) (.slice ad n c)) d
  rb : DskAt wr br (rdOf d) (.slice ad n c)
  r0 : DskAt wr n0 rd0 (.slice none 0 0)
  below : Below w.heap.size w wr
  fpb : ∀ b ∈ fp, w.heap.size ≤ b
  nfp : br ∉ fp ∧ n0 ∉ fp
  ge : w.heap.size ≤ br ∧ w.heap.size ≤ n0 ∧ n0 ≠ br
theorem BegR.alloc {w : World} {n0 br p : Nat} {d : DS} {wr : World} {k : Nat} {fp : List Nat} {ad : Option Addr} {n c : Nat} (h : BegR w n0 br p d wr k fp ad n c) (o : Obj) : BegR w n0 br p d (wr.alloc o) k fp ad n c :=
  ⟨h.dk.new o, h.ref.below ((Below.refl _ wr).alloc (Nat.le_refl _) o), h.rb.old o, h.r0.old o, h.below.alloc h.below.size o, h.fpb, h.nfp, h.ge⟩
/-- Behind the reference's call and the disk's. w1: ahead of the reference's; w2: behind it; w5: its disk is stored; w6: behind the disk's. -/
theorem BegR.next {w : World} {n0 br p bs : Nat} {d d' : DS} {w1 w2 w5 w6 : World} {k : Nat} {fp fp' : List Nat} {ad ad' : Option Addr} {n c n' c' : Nat} (h : BegR w n0 br p d w1 k fp ad n c)
    (hR : RefIs (fun b => (b ≠ br ∧ b ≠ n0 ∧ b ∉ fp) ∨ w1.heap.size ≤ b) w2 (rdV (rdOf d') (.slice ad' n' c')) d') (hb2 : Below w1.heap.size w1 w2) (hbs : w2.heap.size ≤ bs) (h5 : ∀ b, b ≠ br → b ≠ bs → b < w2.heap.size → w5.heap[b]? = w2.heap[b]?) (hs5 : w2.heap.size ≤ w5.heap.size) (hos : w5.os = w2.os) (htp : w5.tape = w2.tape) (hou : w5.output = w2.output)
    (hrb : DskAt w5 br (rdOf d') (.slice ad' n' c')) (hd6 : DiskAt (k + 1) w6 p d' fp') (ho6 : Only fp w5 w6) (hf6 : ∀ b ∈ fp', b ∈ fp ∨ w5.heap.size ≤ b) : BegR w n0 br p d' w6 (k + 1) fp' ad' n' c' := by
  have hs1 := hb2.size
  have lt1 := h.dk.lt
  have lbr := h.rb.lt
  have l0 := h.r0.lt
  have hst : ∀ b, b < w2.heap.size → b ≠ br → b ∉ fp → w6.heap[b]? = w2.heap[b]? := fun b hb h1 h2 => (ho6.block b (by omega) h2).trans (h5 b h1 (by omega) hb)
  have nf' : ∀ b, b < w5.heap.size → b ∉ fp → b ∉ fp' := fun b hb h1 h2 => by rcases hf6 b h2 with h | h; exact h1 h; omega
  refine ⟨hd6, ?_, ?_, ?_, ?_, ?_, ⟨nf' br (by omega) h.nfp.1, nf' n0 (by omega) h.nfp.2⟩, h.ge⟩
  · refine ((hR.mono fun b hb hP => (⟨hP, hb⟩ : ((b ≠ br ∧ b ≠ n0 ∧ b ∉ fp) ∨ w1.heap.size ≤ b) ∧ b < w2.heap.size)).same (by have := ho6.size; omega) fun b hb hl => ?_).mono fun b _ hb => ?_
    · rcases hb.1 with ⟨h1, h2, h3⟩ | hb
      · exact hst b hl h1 h3
      · exact hst b hl (by omega) (fun hm => by have := lt1 b hm; omega)
    · obtain ⟨hb, hl⟩ := hb
      rcases hb with ⟨h1, h2, h3⟩ | hb
      · exact ⟨h1, h2, nf' b (by omega) h3⟩
      · exact ⟨by omega, by omega, nf' b (by omega) fun hm => by have := lt1 b hm; omega⟩
  · exact (ho6.block br (by omega) h.nfp.1).trans hrb
  · exact (hst n0 (by omega) h.ge.2.2 h.nfp.2).trans ((hb2.block n0 l0).trans h.r0)
  · have e1 : Below w.heap.size w w2 := h.below.trans (hb2.mono h.below.size)
    have e2 : Below w.heap.size w2 w5 := ⟨hos, htp, hou, hs5, fun b hb => h5 b (by have := h.ge.1; omega) (by have := e1.size; omega) (by have := e1.size; omega)⟩
    exact (e1.trans e2).trans (ho6.below (by have := e1.size; omega) h.fpb)
  · intro b hb
    rcases hf6 b hb with h1 | h1
    · exact h.fpb b h1
    · have := h.below.size; omega
def BegSays (room : Int) (L : List OpC) (w : World) (e : Ending) (w' : World) : Prop :=
  ∃ p fp rv, e = .returned (.tuple #[.pointer (some ⟨p, 0, none⟩), rv, .bool true]) ∧ DiskAt L.length w' p (behind room L) fp ∧ RefIs (fun b => b ∉ fp) w' rv (behind room L) ∧ Below w.heap.size w w' ∧ ∀ b ∈ fp, w.heap.size ≤ b
set_option maxHeartbeats 1000000 in
theorem begun_any (room : Int) (v : Value) (w : World) (L : List OpC) (hS : Script w v L) (h1 : -9223372036854775808 ≤ room) (h2 : room ≤ 9223372036854775807) (hL : L.length ≤ 1048576) :
    Calls Try.prog 11 #[.int .i64 room, v] w (BegSays room L w) := by
  obtain ⟨ao, cap, rfl, hcap, _, hcs⟩ := hS
  have HCS : Hid (0 < L.length → ∃ b off, ao = some ⟨b, off, none⟩ ∧ b < w.heap.size ∧ ∀ (i : Nat) (o : OpC), L[i]? = some o → o.fits ∧ ∃ bv,
    w.cell? ⟨b, off + i * 4, none⟩ = some (.int .i64 o.kind) ∧ w.cell? ⟨b, off + i * 4 + 1, none⟩ = some (.int .u64 o.area) ∧ w.cell? ⟨b, off + i * 4 + 2, none⟩ = some (.int .i64 o.n) ∧ w.cell? ⟨b, off + i * 4 + 3, none⟩ = some bv ∧ Row w.heap.size w bv o.xs) := hcs
  clear hcs
  go_enter Try.func11, Try.ntmps11
  go_wp2_with fail
  obtain ⟨w0, hw0⟩ : ∃ w0, w.alloc (.cells (rdC rd0 (.slice none 0 0)) 27) = w0 := ⟨_, rfl⟩
  rw [hw0]
  have hs0 : w0.heap.size = w.heap.size + 1 := by rw [← hw0]; simp
  have D0 : Hid (DskAt w0 w.heap.size rd0 (.slice none 0 0)) := hw0 ▸ DskAt.new w rd0 _
  have B0 : Hid (Below w.heap.size w w0) := hw0 ▸ (Below.refl _ w).alloc (Nat.le_refl _) _
  clear hw0
  refine (New_any room w0 h1 h2).mono ?_
  rintro e w1 ⟨p, fp, rfl, hd1, hb1, hf1⟩
  have D1 : Hid (DskAt w1 w.heap.size rd0 (.slice none 0 0)) := D0.out.below (by omega) hb1
  have B1 : Hid (Below w.heap.size w w1) := B0.out.trans (hb1.mono (by omega))
  have HD1 : Hid (DiskAt 0 w1 p (newD room) fp) := hd1
  have HF1 : Hid (∀ b ∈ fp, w.heap.size + 1 ≤ b) := fun b hb => by have := hf1 b hb; omega
  have hs1 := hb1.size
  clear hd1 hb1 hf1
  go_wp2_with fail
  refine (refNew_any room w1).mono ?_
  rintro e w2 ⟨rfl, hb2⟩
  rw [← rdOf_new]
  have D2 : Hid (DskAt w2 w.heap.size rd0 (.slice none 0 0)) := D1.out.below (by omega) hb2
  have B2 : Hid (Below w.heap.size w w2) := B1.out.trans (hb2.mono (by omega))
  have HD2 : Hid (DiskAt 0 w2 p (newD room) fp) := HD1.out.below hb2
  have hs2 := hb2.size
  have hst3 := storeD_at (r := rdOf (newD room)) (ad := none) (n := 0) (c := 0) (DskAt.new w2 rd0 (.slice none 0 0))
  obtain ⟨w3, hw3⟩ : ∃ w3, setD (w2.alloc (.cells (rdC rd0 (.slice none 0 0)) 27)) w2.heap.size (rdOf (newD room)) (.slice none 0 0) = w3 := ⟨_, rfl⟩
  rw [hw3] at hst3
  have hBR : BegR w w.heap.size w2.heap.size p (newD room) w3 0 fp none 0 0 := by
    have hlt := HD2.out.lt
    have hsD := D2.out.lt
    have hst : ∀ b, b < w2.heap.size → w3.heap[b]? = w2.heap[b]? := fun b hb => by rw [← hw3, setD_far _ _ _ _ _ (by omega), alloc_old _ _ hb]
    refine ⟨HD2.out.same fun b hb => hst b (hlt b hb), ⟨_, [], rfl, SecRow.nil _ _, rfl⟩, hw3 ▸ (DskAt.new w2 rd0 (.slice none 0 0)).set, (hst _ hsD).trans D2.out, ?_, fun b hb => by have := HF1.out b hb; omega, ⟨fun hm => by have := hlt _ hm; omega, fun hm => by have := HF1.out _ hm; omega⟩, ⟨B2.out.size, Nat.le_refl _, by omega⟩⟩
    rw [← hw3]
    exact setD_below (B2.out.alloc B2.out.size _) B2.out.size _ _
  have HBR : Hid (BegR w w.heap.size w2.heap.size p (newD room) w3 0 fp none 0 0) := hBR
  clear hb2 hw3 hBR D0 B0 D1 B1 HD1
  go_wp2_with fail
  refine (alive_any w3).mono ?_
  rintro e w4 ⟨rfl, hb4⟩
  have HB4 : Hid (BegR w w.heap.size w2.heap.size p (newD room) w4 0 fp none 0 0) := by
    have h := HBR.out
    have hs := h.below.size
    exact ⟨h.dk.below hb4, h.ref.below hb4, h.rb.below h.rb.lt hb4, h.r0.below h.r0.lt hb4, h.below.trans (hb4.mono hs), h.fpb, h.nfp, h.ge⟩
  clear hb4 HBR hst3
  go_wp2_with fail
  go_loopw [26] (fun v wr => ∃ (k : Nat) (fp : List Nat) (ad : Option Addr) (n c : Nat), v = .int .i64 k ∧ k ≤ L.length ∧ BegR w w.heap.size w2.heap.size p (behind room (L.take k)) wr k fp ad n c) (fun v _ => L.length - (intOf v).toNat)
  case atStart => exact ⟨0, fp, none, 0, 0, rfl, Nat.zero_le _, HB4.out⟩
  case round =>
    clear HB4 HD2 HF1 D2 B2
    obtain ⟨k, fp, ad, n, c, rfl, hk, hI⟩ := hrel
    have HI : Hid (BegR w w.heap.size w2.heap.size p (behind room (L.take k)) wr k fp ad n c) := hI
    clear hI
    by_cases hlt : k < L.length
    · obtain ⟨b, off, rfl, hbw, hel⟩ := HCS.out (by omega)
      obtain ⟨o, ho⟩ : ∃ o, L[k]? = some o := ⟨_, List.getElem?_eq_getElem hlt⟩
      obtain ⟨hfit, bv, c0, c1, c2, c3, hrow⟩ := hel k o ho
      obtain ⟨ao2, cap2, rfl, hcap2⟩ := hrow.shape
      have HFit : Hid o.fits := hfit
      have HRow : Hid (Row w.heap.size w (.slice ao2 o.xs.length cap2) o.xs) := hrow
      have hBw := HI.out.below
      have d0 := (hBw.cell (p := ⟨b, off + k * 4, none⟩) hbw).trans c0
      have d1 := (hBw.cell (p := ⟨b, off + k * 4 + 1, none⟩) hbw).trans c1
      have d2 := (hBw.cell (p := ⟨b, off + k * 4 + 2, none⟩) hbw).trans c2
      have d3 := (hBw.cell (p := ⟨b, off + k * 4 + 3, none⟩) hbw).trans c3
      have hlt' : (k : Int) < (L.length : Int) := by omega
      have hsz := hBw.size
      have HBS : Hid (behind room (L.take (k + 1)) = doD (behind room (L.take k)) o) := behind_snoc room ho
      obtain ⟨dd, hdd⟩ : ∃ dd, behind room (L.take k) = dd := ⟨_, rfl⟩
      rw [hdd] at HI HBS
      obtain ⟨wx, hwx⟩ : ∃ wx, wr.alloc (.cells #[.int .i64 o.kind, .int .u64 o.area, .int .i64 o.n, .slice ao2 o.xs.length cap2] 38) = wx := ⟨_, rfl⟩
      have HX : Hid (BegR w w.heap.size w2.heap.size p dd wx k fp ad n c) := hwx ▸ HI.out.alloc _
      have hox : wx.heap[wr.heap.size]? = some (.cells #[.int .i64 o.kind, .int .u64 o.area, .int .i64 o.n, .slice ao2 o.xs.length cap2] 38 (0, 0)) := hwx ▸ alloc_new _ _
      have HOX : Hid (wx.heap[wr.heap.size]? = some (.cells #[.int .i64 o.kind, .int .u64 o.area, .int .i64 o.n, .slice ao2 o.xs.length cap2] 38 (0, 0))) := hox
      have hsx : wx.heap.size = wr.heap.size + 1 := by rw [← hwx]; simp
      have hldx := loadD_at HX.out.rb
      rw [← hwx] at hldx
      have HWX : Hid (wr.alloc (.cells #[.int .i64 o.kind, .int .u64 o.area, .int .i64 o.n, .slice ao2 o.xs.length cap2] 38) = wx) := hwx
      clear hel c0 c1 c2 c3 hfit hrow ho hBw hdd hwx hox
      go_wp2_with fail
      rw [HWX.out]
      clear hldx HWX d0 d1 d2 d3
      refine (refDo_any (fun b => b ≠ w2.heap.size ∧ b ≠ w.heap.size ∧ b ∉ fp) k w.heap.size dd _ o _ wx HX.out.ref HX.out.dk.ok (by omega) HFit.out (HRow.out.below HX.out.below) HX.out.below.size).mono ?_
      rintro e w3' ⟨v3, rfl, hR3, hb3⟩
      obtain ⟨ad3, n3, c3, rfl⟩ := hR3.form
      obtain ⟨dq, hdq⟩ : ∃ dq, doD dd o = dq := ⟨_, rfl⟩
      rw [hdq] at hR3 HBS
      rw [hdq]
      have HDQ : Hid (doD dd o = dq) := hdq
      have HR3 : Hid (RefIs (fun b => (b ≠ w2.heap.size ∧ b ≠ w.heap.size ∧ b ∉ fp) ∨ wx.heap.size ≤ b) w3' (rdV (rdOf dq) (.slice ad3 n3 c3)) dq) := hR3
      have HB3 : Hid (Below wx.heap.size wx w3') := hb3
      have hs3 := hb3.size
      obtain ⟨eq, heq⟩ : ∃ eq, doE dd o = eq := ⟨_, rfl⟩
      rw [heq]
      have HEQ : Hid (doE dd o = eq) := heq
      have hst4 := storeD_at (r := rdOf dq) (ad := ad3) (n := n3) (c := c3) (DskAt.new w3' rd0 (.slice none 0 0))
      obtain ⟨w4', hw4'⟩ : ∃ w4', setD (w3'.alloc (.cells (rdC rd0 (.slice none 0 0)) 27)) w3'.heap.size (rdOf dq) (.slice ad3 n3 c3) = w4' := ⟨_, rfl⟩
      rw [hw4'] at hst4
      have hS4 : DskAt w4' w3'.heap.size (rdOf dq) (.slice ad3 n3 c3) := hw4' ▸ (DskAt.new w3' rd0 (.slice none 0 0)).set
      have hf4 : ∀ b, b < w3'.heap.size → w4'.heap[b]? = w3'.heap[b]? := fun b hb => by rw [← hw4', setD_far _ _ _ _ _ (by omega), alloc_old _ _ hb]
      have hbr4 : DskAt w4' w2.heap.size (rdOf dd) (.slice ad n c) := (hf4 _ (by have := HX.out.rb.lt; omega)).trans (HX.out.rb.below HX.out.rb.lt hb3)
      have hz4 : w4'.heap.size = w3'.heap.size + 1 := by rw [← hw4', setD_size]; simp
      have hB4 := hw4' ▸ setD_below ((Below.refl 0 w3').alloc (Nat.zero_le _) (.cells (rdC rd0 (.slice none 0 0)) 27)) (Nat.zero_le w3'.heap.size) (rdOf dq) (.slice ad3 n3 c3)
      have hld4 := loadD_at hS4
      have hst5 := storeD_at (r := rdOf dq) (ad := ad3) (n := n3) (c := c3) hbr4
      obtain ⟨w5', hw5'⟩ : ∃ w5', setD w4' w2.heap.size (rdOf dq) (.slice ad3 n3 c3) = w5' := ⟨_, rfl⟩
      rw [hw5'] at hst5
      have hrb5 : DskAt w5' w2.heap.size (rdOf dq) (.slice ad3 n3 c3) := hw5' ▸ hbr4.set
      have H5 : Hid (∀ b, b ≠ w2.heap.size → b ≠ w3'.heap.size → b < w3'.heap.size → w5'.heap[b]? = w3'.heap[b]?) := fun b h1 h2 h3 => by rw [← hw5', setD_far _ _ _ _ _ h1]; exact hf4 b h3
      have hz5 : w5'.heap.size = w3'.heap.size + 1 := by rw [← hw5', setD_size]; exact hz4
      have HO5 : Hid (w5'.os = w3'.os ∧ w5'.tape = w3'.tape ∧ w5'.output = w3'.output) := by
        have hB5 := hw5' ▸ setD_below hB4 (Nat.zero_le w2.heap.size) (rdOf dq) (.slice ad3 n3 c3)
        exact ⟨hB5.os, hB5.tape, hB5.output⟩
      have HRB5 : Hid (DskAt w5' w2.heap.size (rdOf dq) (.slice ad3 n3 c3)) := hrb5
      have hlbr := HX.out.rb.lt
      have ho5 : w5'.heap[wr.heap.size]? = some (.cells #[.int .i64 o.kind, .int .u64 o.area, .int .i64 o.n, .slice ao2 o.xs.length cap2] 38 (0, 0)) := by
        rw [H5.out _ (by have := HI.out.rb.lt; omega) (by omega) (by omega), hb3.block _ (by omega)]
        exact HOX.out
      obtain ⟨q0, q1, q2, q3, _⟩ := four_cells ho5
      have HD5 : Hid (DiskAt k w5' p dd fp) := (HX.out.dk.below hb3).same fun b hb => by
        have hl := HX.out.dk.lt b hb
        exact H5.out b (fun e => HX.out.nfp.1 (e ▸ hb)) (by omega) (by omega)
      have HB5 : Hid (Below w.heap.size w w5') := by
        have e1 : Below w.heap.size w w3' := HX.out.below.trans (hb3.mono HX.out.below.size)
        exact e1.trans ⟨HO5.out.1, HO5.out.2.1, HO5.out.2.2, by omega, fun b hb => H5.out b (by have := HX.out.ge.1; omega) (by have := e1.size; omega) (by have := e1.size; omega)⟩
      clear hR3 hb3 hdq heq hw4' hw5' hS4 hf4 hbr4 hB4 hrb5 ho5
      go_wp2_with fail
      refine (does_any k p dd fp o (.slice ao2 o.xs.length cap2) w5' HD5.out HFit.out (row_xx HRow.out HB5.out HX.out.fpb) (by omega)).mono ?_
      rintro e w6 ⟨rfl, fp6, hd6, ho6, hf6⟩
      rw [HEQ.out]
      rw [HDQ.out] at hd6
      have HN : Hid (BegR w w.heap.size w2.heap.size p dq w6 (k + 1) fp6 ad3 n3 c3) := HX.out.next HR3.out HB3.out (Nat.le_refl _) H5.out (by omega) HO5.out.1 HO5.out.2.1 HO5.out.2.2 HRB5.out hd6 ho6 hf6
      clear hd6 ho6 hf6 q0 q1 q2 q3 hld4 hst4 hst5
      go_wp2_with fail
      go_roundw
      case rel => exact ⟨k + 1, fp6, ad3, n3, c3, by go_num, by omega, by rw [HBS.out]; exact HN.out⟩
      case measure => simp [intOf]; omega
    · have hxn : ¬ ((k : Int) < (L.length : Int)) := by omega
      have hkk : k = L.length := by omega
      have R0 : DskAt wr.drew w.heap.size rd0 (.slice none 0 0) := HI.out.r0
      have RB : DskAt wr.drew w2.heap.size (rdOf (behind room (L.take k))) (.slice ad n c) := HI.out.rb
      obtain ⟨dd, hdd⟩ : ∃ dd, behind room (L.take k) = dd := ⟨_, rfl⟩
      rw [hdd] at RB HI
      have hldd := loadD_at RB
      have hstd := storeD_at (r := rdOf dd) (ad := ad) (n := n) (c := c) R0
      obtain ⟨w7, hw7⟩ : ∃ w7, setD wr.drew w.heap.size (rdOf dd) (.slice ad n c) = w7 := ⟨_, rfl⟩
      rw [hw7] at hstd
      have HR7 : Hid (DskAt w7 w.heap.size (rdOf dd) (.slice ad n c)) := hw7 ▸ R0.set
      have HE : Hid (BegSays room L w (.returned (.tuple #[.pointer (some ⟨p, 0, none⟩), rdV (rdOf dd) (.slice ad n c), .bool true])) w7) := by
        have h := HI.out
        have hdL : behind room L = dd := by rw [← hdd, hkk, List.take_length]
        have hst : ∀ b, b ≠ w.heap.size → w7.heap[b]? = wr.heap[b]? := fun b hb => by rw [← hw7, setD_far _ _ _ _ _ hb]; rfl
        have hsz : w7.heap.size = wr.heap.size := by rw [← hw7, setD_size]; rfl
        refine ⟨p, fp, _, rfl, ?_, ?_, ?_, h.fpb⟩
        · rw [hdL, ← hkk]
          exact h.dk.same fun b hb => hst b fun e => h.nfp.2 (e ▸ hb)
        · rw [hdL]
          exact (h.ref.same (by omega) fun b hb _ => hst b hb.2.1).mono fun b _ hb => hb.2.2
        · rw [← hw7]
          exact setD_below h.below.drew (Nat.le_refl _) _ _
      clear hw7 R0 RB hdd
      go_wp2_with fail
      go_region
      all_goals (go_wp2_with fail)
      all_goals exact retD3 rfl rfl rfl rfl HR7.out rfl HE.out
end Go.Proofs.Ytpmmpdkeahmdiaa

/- The reference of the disk: Read, Sectors. -/
namespace Go.Proofs.Ytpmmpdkeahmdiaa
open Go.RowKit
set_option maxRecDepth 100000

attribute [local go_sem ↓] exec_alloc_D exec_box_D exec_load_D exec_store_D
attribute [local go_sem] rdV_cells rdC_0 rdC_1 rdC_2 rdC_3 rdC_4 rdC_5
theorem cur_last (s : Sec) (h : s.last ≠ none ∨ s.fresh ≠ []) : s.cur = some ((toRS s).vs.getLastD []) := by
  unfold Sec.cur toRS
  rw [List.getLastD_eq_getLast?, List.getLast?_append]
  cases hf : s.fresh.getLast? with
  | some v => rfl
  | none =>
    have hn : s.fresh = [] := List.getLast?_eq_none_iff.1 hf
    cases hl : s.last with
    | none => exact absurd hl (h.resolve_right (fun x => x hn))
    | some v => rfl
def readV (o : Option (List Nat)) : Value := match o with | some v => .tuple #[.string (strB v), .bool true] | none => .tuple #[.string (ByteArray.mk #[]), .bool false]
set_option maxHeartbeats 2000000 in
theorem refRead_any (P : Nat → Prop) (N : Nat) (d : DS) (v : Value) (a n : Int) (w : World) (h : RefIs P w v d) (hd : DsOk N d) (hN : N < 1099511627776) :
    Calls Try.prog 32 #[v, .int .u64 a, .int .i64 n] w fun e w' => e = .returned (readV (curOf d.secs a n)) ∧ Below w.heap.size w w' := by
  obtain ⟨l, X, rfl, hS, hX⟩ := h
  obtain ⟨hl1, hl2, hl3⟩ := ref_lens hd hN hX
  obtain ⟨ad, cap, rfl, _⟩ := id hS
  have t1 := DskAt.new w (rdOf d) (.slice ad X.length cap)
  have hld := loadD_at t1
  obtain ⟨w1, hw1⟩ : ∃ w1, w.alloc (.cells (rdC (rdOf d) (.slice ad X.length cap)) 27) = w1 := ⟨_, rfl⟩
  have HW1 : Hid (w.alloc (.cells (rdC (rdOf d) (.slice ad X.length cap)) 27) = w1) := hw1
  rw [hw1] at t1
  have D1 : Hid (DskAt w1 w.heap.size (rdOf d) (.slice ad X.length cap)) := t1
  have B1 : Hid (Below w.heap.size w w1) := hw1 ▸ (Below.refl _ w).alloc (Nat.le_refl _) _
  have hs1 : w1.heap.size = w.heap.size + 1 := by rw [← hw1]; simp
  have HS : Hid (SecRow P w (.slice ad X.length cap) X) := hS
  have HD : Hid (DsOk N d) := hd
  have HX : Hid (X.map RX.s = d.secs.map toRS) := hX
  clear hw1 t1 hS hd hX hl1
  go_enter Try.func32, Try.ntmps32
  go_wp2_with fail
  rw [HW1.out]
  clear hld HW1
  refine (refAt_sec (rdOf d) (.slice ad X.length cap) X a n w1 (HS.out.below B1.out)).mono ?_
  rintro e w2 ⟨⟨k, rfl, hk⟩, hb2⟩
  have hD2 := D1.out.below (by omega) hb2
  have B2 : Hid (Below w.heap.size w w2) := B1.out.trans (hb2.mono (by omega))
  obtain ⟨d0, d1, d2, d3, d4, d5, dz⟩ := hD2.cells
  clear hb2 hD2 d0 d1 d2 d3 d4
  rcases hk with ⟨i, x, rfl, hx, xa, xn⟩ | ⟨rfl, hno⟩
  · have h0' : ¬ ((i : Int) < 0) := by omega
    have hil := (List.getElem?_eq_some_iff.1 hx).1
    obtain ⟨_, _, eX, _, hcs, hok⟩ := id HS.out
    obtain ⟨g, hg0, _, hg, hx4⟩ := hcs (by omega)
    simp only [Value.slice.injEq] at eX
    rw [← eX.1] at hg0
    subst hg0
    obtain ⟨x0, x1, x2, x3⟩ := (hx4 i x hx).below hg B2.out
    have hxm := List.mem_of_getElem? hx
    have HXO : Hid (x.ok P w) := hok x hxm
    obtain ⟨⟨xh, xc, exl, _, _, _⟩, _⟩ := id (hok x hxm)
    rw [exl] at x2
    have HV : Hid (x.val = .agg #[.int .u64 x.s.area, .int .i64 x.s.n, .slice (some ⟨xh, 0, none⟩) x.s.vs.length xc, .bool x.s.sy]) := by show _ = _; unfold RX.val; rw [exl]
    have HC : Hid (curOf d.secs a n = some (x.s.vs.getLastD [])) := by
      obtain ⟨s, h1, h2⟩ := is_find HD.out.sorted HX.out hxm
      rw [xa, xn] at h1
      show _ = _
      rw [curOf, h1, Option.bind_some, cur_last s (HD.out.there s (findS_mem h1)), h2]
    have hin : (i : Int) < (X.length : Int) := by omega
    clear hcs hok hx4 eX hxm xa xn hx exl
    go_wp2_with fail
    rw [← HV.out]
    refine (refLast_rx x w2 (HXO.out.below B2.out)).mono ?_
    obtain ⟨u, hu⟩ : ∃ u, x.s.vs.getLastD [] = u := ⟨_, rfl⟩
    rw [hu] at HC
    rw [hu]
    clear hu
    rintro e w3 ⟨rfl, hb3⟩
    have B3 : Hid (Below w.heap.size w w3) := B2.out.trans (hb3.mono B2.out.size)
    clear hb3 x0 x1 x2 x3
    go_wp2_with fail
    go_ret2
    exact ⟨by rw [HC.out]; rfl, B3.out⟩
  · have HC : Hid (curOf d.secs a n = none) := by
      show _ = _
      rw [curOf, no_find HX.out hno]; rfl
    clear hno
    go_wp2_with fail
    go_ret2
    exact ⟨by rw [HC.out]; rfl, B2.out⟩
/-- One more than the number of the last sector of the area among the first i. -/
def secAt (X : List RX) (a : Int) (i : Nat) : Int := (((X.take i).filter fun x => x.s.area = a).getLast?.map (·.s.n + 1)).getD 0
theorem secAt_succ {X : List RX} {a : Int} {i : Nat} {x : RX} (hx : X[i]? = some x) : secAt X a (i + 1) = if x.s.area = a then x.s.n + 1 else secAt X a i := by
  unfold secAt
  rw [take_snoc hx, List.filter_append]
  by_cases h : x.s.area = a
  · rw [if_pos h]; simp [h]
  · rw [if_neg h]; simp [h]
theorem last_top : ∀ (l : List Int), l.Pairwise (· < ·) → (∀ k ∈ l, 0 ≤ k) → (l.getLast?.map (· + 1)).getD 0 = topS l
  | [], _, _ => rfl
  | [k], _, h => by have := h k (.head _); simp [topS]; omega
  | k :: k2 :: r, hp, h => by
    have ih := last_top (k2 :: r) (List.pairwise_cons.1 hp).2 fun x hx => h x (.tail _ hx)
    have h1 := (List.pairwise_cons.1 hp).1 k2 (.head _)
    have h2 := topS_mem (k2 :: r) k2 (.head _)
    rw [List.getLast?_cons_cons]
    rw [ih]
    show topS (k2 :: r) = max (k + 1) (topS (k2 :: r))
    omega
theorem secAt_all {X : List RX} {d : DS} {a : Int} (hX : X.map RX.s = d.secs.map toRS) (hs : d.secs.Pairwise Sec.before) (ho : SecsOk d.secs) : secAt X a X.length = endS a d.secs := by
  unfold secAt endS
  rw [List.take_length]
  have e1 : (X.filter fun x => decide (x.s.area = a)).map (fun x => x.s.n) = (d.secs.filter fun s => s.area = a).map (·.n) := by
    have q1 : (X.filter fun x => decide (x.s.area = a)).map (fun x => x.s.n) = ((X.map RX.s).filter fun s => s.area = a).map (·.n) := by rw [List.filter_map, List.map_map]; rfl
    rw [q1, hX, List.filter_map, List.map_map]
    rfl
  rw [← e1]
  have e2 : ((X.filter fun x => decide (x.s.area = a)).getLast?.map (fun x => x.s.n + 1)) = ((X.filter fun x => decide (x.s.area = a)).map (fun x => x.s.n)).getLast?.map (· + 1) := by rw [List.getLast?_map, Option.map_map]; rfl
  rw [e2]
  refine last_top _ ?_ ?_
  · rw [e1, List.pairwise_map]
    have hp : (d.secs.filter fun s => decide (s.area = a)).Pairwise Sec.before := hs.filter _
    refine hp.imp_of_mem fun {s t} h1 h2 h3 => ?_
    have a1 : s.area = a := by simpa using (List.mem_filter.1 h1).2
    have a2 : t.area = a := by simpa using (List.mem_filter.1 h2).2
    unfold Sec.before at h3
    omega
  · intro k hk
    rw [e1] at hk
    obtain ⟨s, hs2, rfl⟩ := List.mem_map.1 hk
    exact (ho s (List.mem_filter.1 hs2).1).1
set_option maxHeartbeats 2000000 in
theorem refSectors_any (P : Nat → Prop) (N : Nat) (d : DS) (v : Value) (a : Int) (w : World) (h : RefIs P w v d) (hd : DsOk N d) (hN : N < 1099511627776) (ho : SecsOk d.secs) :
    Calls Try.prog 44 #[v, .int .u64 a] w fun e w' => e = .returned (.int .i64 (endS a d.secs)) ∧ Below w.heap.size w w' := by
  obtain ⟨l, X, rfl, hS, hX⟩ := h
  obtain ⟨hl1, hl2, hl3⟩ := ref_lens hd hN hX
  obtain ⟨ad, cap, rfl, _⟩ := id hS
  have t1 := DskAt.new w (rdOf d) (.slice ad X.length cap)
  obtain ⟨w1, hw1⟩ : ∃ w1, w.alloc (.cells (rdC (rdOf d) (.slice ad X.length cap)) 27) = w1 := ⟨_, rfl⟩
  rw [hw1] at t1
  have B1 : Hid (Below w.heap.size w w1) := hw1 ▸ (Below.refl _ w).alloc (Nat.le_refl _) _
  obtain ⟨d0, d1, d2, d3, d4, d5, dz⟩ := t1.cells
  have HS : Hid (SecRow P w (.slice ad X.length cap) X) := hS
  have HE : Hid (secAt X a X.length = endS a d.secs) := secAt_all hX hd.sorted ho
  have HO : Hid (∀ x ∈ X, 0 ≤ x.s.n ∧ x.s.n < 16777216) := fun x hx => by
    have : x.s ∈ d.secs.map toRS := by rw [← hX]; exact List.mem_map.2 ⟨x, hx, rfl⟩
    obtain ⟨s, hm, e⟩ := List.mem_map.1 this
    rw [← e]
    exact ho s hm
  clear t1 hS hd hX d0 d1 d2 d3 d4 ho hl1
  go_enter Try.func44, Try.ntmps44
  go_wp2_with fail
  try rw [hw1]
  clear hw1
  go_loopw [5, 6] (fun v5 v6 wr => ∃ i : Nat, v5 = .int .i64 (secAt X a i) ∧ v6 = .int .i64 i ∧ i ≤ X.length ∧ wr = w1) (fun _ v6 _ => X.length - (intOf v6).toNat)
  case atStart => exact ⟨0, rfl, rfl, Nat.zero_le _, rfl⟩
  case round =>
    obtain ⟨i, rfl, rfl, hi, rfl⟩ := hrel
    by_cases hin : i < X.length
    · obtain ⟨_, _, eX, _, hcs, hok⟩ := id HS.out
      obtain ⟨g, hg0, _, hg, hx4⟩ := hcs (by omega)
      simp only [Value.slice.injEq] at eX
      rw [← eX.1] at hg0
      subst hg0
      obtain ⟨x, hx⟩ : ∃ x, X[i]? = some x := ⟨_, List.getElem?_eq_getElem hin⟩
      obtain ⟨x0, x1, x2, x3⟩ := (hx4 i x hx).below hg B1.out
      obtain ⟨b1, b2⟩ := HO.out x (List.mem_of_getElem? hx)
      have HN2 : Hid (secAt X a (i + 1) = if x.s.area = a then x.s.n + 1 else secAt X a i) := secAt_succ hx
      clear hcs hok hx4 eX hx x2 x3
      by_cases ea : x.s.area = a
      · have e1 : (x.s.area == a) = true := by simpa using ea
        have EA : Hid (x.s.area = a) := ea
        clear ea
        go_wp2_with fail
        go_roundw
        case rel => exact ⟨i + 1, by rw [HN2.out, if_pos EA.out], by go_num, by omega, (by first | trivial | exact rfl)⟩
        case measure => simp [intOf]; omega
      · have e1 : (x.s.area == a) = false := by simpa using ea
        have EA : Hid (¬ x.s.area = a) := ea
        clear ea
        go_wp2_with fail
        go_roundw
        case rel => exact ⟨i + 1, by rw [HN2.out, if_neg EA.out], by go_num, by omega, (by first | trivial | exact rfl)⟩
        case measure => simp [intOf]; omega
    · have hii : i = X.length := by omega
      subst hii
      go_wp2_with fail
      go_ret
      exact ⟨by rw [HE.out]; rfl, B1.out⟩
end Go.Proofs.Ytpmmpdkeahmdiaa
