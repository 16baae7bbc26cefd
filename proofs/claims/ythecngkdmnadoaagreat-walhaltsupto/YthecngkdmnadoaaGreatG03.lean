/- Texts that were written apart, joined. -/
import Derived.Test.YthecngkdmnadoaaGreatG00
import Derived.Test.YthecngkdmnadoaaGreatMapAt
import Derived.Deep.MidRow
import Derived.Sort.Row
import Derived.Sort.AssemblyPlain
import Derived.CellFam
import Derived.BigGuard
import Derived.BigCall
import Derived.BigQuiet
import Derived.Deep.QuietTactic
import Derived.RegionTactic
import Derived.BigRegion
/- Versions of sectors: arrays of 64 bytes, as values and in memory. -/
namespace Go.Proofs.YthecngkdmnadoaaGreat
open Go.RowKit
set_option maxRecDepth 100000

theorem info_ver : (Tryz.prog.info? 93).map (fun i => (i.zero, i.size, i.bytes)) = some (some (.agg (Array.replicate 64 (.int .u8 0))), 64, 64) := by kernel_rfl
/-- The version without a byte that is not 0. -/
def zver : List Nat := List.replicate 64 0
def verC (v : List Nat) : Array Value := (v.map bv).toArray
def verV (v : List Nat) : Value := .agg (verC v)
theorem zver_len : zver.length = 64 := by simp [zver]
theorem verC_size (v : List Nat) : (verC v).size = v.length := by simp [verC]
theorem verC_zero : verC zver = Array.replicate 64 (.int .u8 0) := by
  rw [verC, zver, List.map_replicate, List.toArray_replicate]; rfl

/-- An array with values laid over it from o on. -/
def splice (C : Array Value) : Nat → List Value → Array Value
  | _, [] => C
  | o, v :: r => splice (C.setIfInBounds o v) (o + 1) r
theorem splice_size (vs : List Value) : ∀ (C : Array Value) (o : Nat), (splice C o vs).size = C.size := by
  induction vs with
  | nil => intro C o; rfl
  | cons v r ih => intro C o; rw [splice, ih]; simp
theorem splice_get (vs : List Value) : ∀ (C : Array Value) (o i : Nat), i < C.size → (splice C o vs)[i]? = if o ≤ i ∧ i < o + vs.length then vs[i - o]? else C[i]? := by
  induction vs with
  | nil => intro C o i hi; rw [splice, if_neg]; simp
  | cons v r ih =>
    intro C o i hi
    rw [splice, ih _ _ _ (by simpa using hi)]
    by_cases h1 : o + 1 ≤ i ∧ i < o + 1 + r.length
    · rw [if_pos h1, if_pos (by simp; omega)]
      have e : i - o = (i - (o + 1)) + 1 := by omega
      rw [e, List.getElem?_cons_succ]
    · rw [if_neg h1]
      by_cases h2 : i = o
      · subst h2
        rw [if_pos (by simp)]
        simp [hi]
      · rw [if_neg (by simp; omega), Array.getElem?_setIfInBounds_ne (by omega)]
theorem splice_full (C : Array Value) (vs : List Value) (h : vs.length = C.size) : splice C 0 vs = vs.toArray := by
  apply Array.ext_getElem?
  intro i
  by_cases hi : i < C.size
  · rw [splice_get _ _ _ _ hi, if_pos (by omega)]; simp
  · rw [Array.getElem?_eq_none (by rw [splice_size]; omega), Array.getElem?_eq_none (by simp; omega)]
theorem setCell_new (w : World) (C : Array Value) (t : TypeId) (f : Nat × Nat) (o : Nat) (v : Value) : (w.alloc (.cells C t f)).setCell ⟨w.heap.size, o, none⟩ v = w.alloc (.cells (C.setIfInBounds o v) t f) := by
  have e : (w.heap.push (.cells C t f)).modify w.heap.size (fun | .cells c elem frozen => .cells (c.setIfInBounds o v) elem frozen | x => x) = w.heap.push (.cells (C.setIfInBounds o v) t f) := by
    apply Array.ext_getElem?
    intro i
    rw [Array.getElem?_modify, Array.getElem?_push, Array.getElem?_push]
    by_cases hi : i = w.heap.size
    · subst hi; simp
    · rw [if_neg (fun h => hi h.symm), if_neg hi, if_neg hi]
  simp only [World.setCell, World.alloc, Option.isSome_none, Bool.false_eq_true, if_false]
  rw [World.mk.injEq]
  exact ⟨e, rfl, rfl, rfl, rfl⟩
theorem setCells_new (w : World) (t : TypeId) (f : Nat × Nat) (vs : List Value) : ∀ (C : Array Value) (o : Nat), (w.alloc (.cells C t f)).setCells w.heap.size o vs = w.alloc (.cells (splice C o vs) t f) := by
  induction vs with
  | nil => intro C o; rfl
  | cons v r ih => intro C o; rw [World.setCells, setCell_new, ih, splice]
theorem new_there (w : World) (C : Array Value) (t : TypeId) (n : Nat) (h : n ≤ C.size) : (w.alloc (.cells C t)).there w.heap.size 0 n := by
  intro j hj
  have hb := (MapKept.heap_alloc w (.cells C t)).1
  simp only [World.cell?, World.frozen?, hb, Nat.zero_add]
  constructor
  · simp; omega
  · simp
theorem verV_zero : verV zver = .agg (Array.replicate 64 (.int .u8 0)) := by rw [verV, verC_zero]
theorem verC_one (v : List Nat) : (verC v).all (·.oneCell') = true := by
  refine all_oneCell_toArray fun x hx => ?_
  obtain ⟨y, _, rfl⟩ := List.mem_map.1 hx
  rfl
theorem zero_ver (w : World) : (zeroValue 93).run Tryz.prog w = .ok (verV zver) w := by
  obtain ⟨i, hi, hz, hs, hb⟩ := info_parts info_ver
  rw [verV_zero]
  simp [zeroValue, typeInfo, hi, hz, Result.andThen]
theorem run_alloc_ver (w : World) (x : Value) : (Instr.alloc 93 true x).run Tryz.prog w = .ok (.pointer (some ⟨w.heap.size, 0, none⟩)) (w.alloc (.cells (verC zver) 93)) := by
  simp only [Instr.alloc, Sem.run_bind, zero_ver, Result.andThen, newVar, newRow]
  rfl
theorem run_box_ver (w : World) (v : List Nat) : (Instr.box 93 (verV v)).run Tryz.prog w = .ok (.pointer (some ⟨w.heap.size, 0, none⟩)) (w.alloc (.cells (verC v) 93)) := by
  simp only [Instr.box, Sem.run_bind, newVar, newRow]
  rfl
theorem run_store_ver (w : World) (v : List Nat) (hv : v.length = 64) : (Instr.storeAt 93 (.pointer (some ⟨w.heap.size, 0, none⟩)) (verV v)).run Tryz.prog (w.alloc (.cells (verC zver) 93)) = .ok () (w.alloc (.cells (verC v) 93)) := by
  obtain ⟨i, hi, hz, hs, hb⟩ := info_parts info_ver
  have hsz : (verC v).size = 64 := by rw [verC_size, hv]
  have hz64 : (verC zver).size = 64 := by rw [verC_size, zver_len]
  rw [verV, run_storeAt_mid _ _ _ _ (verC v) (by rw [hsz, ← hz64]; exact new_there _ _ _ _ (Nat.le_refl _)) (by rw [hi, hsz]; simp [hs]) (verC_one v), setCells_new, splice_full _ _ (by rw [Array.length_toList, hsz, hz64])]
end Go.Proofs.YthecngkdmnadoaaGreat

/- A disk in memory: what its blocks hold, and what sectors that is. -/
namespace Go.Proofs.YthecngkdmnadoaaGreat
open Go.RowKit
set_option maxRecDepth 100000

/-- A list of versions in memory: its block, how many there is room for, and they. -/
structure FS where
  g : Nat
  cap : Nat
  vs : List (List Nat)
def fsV (x : FS) : Value := .slice (some ⟨x.g, 0, none⟩) x.vs.length x.cap
def flat (vs : List (List Nat)) : List Value := vs.flatMap (·.map bv)
theorem flat_len (vs : List (List Nat)) (h : ∀ v ∈ vs, v.length = 64) : (flat vs).length = vs.length * 64 := by
  induction vs with
  | nil => rfl
  | cons v r ih =>
    have h1 := h v (.head _)
    have h2 := ih fun x hx => h x (.tail _ hx)
    simp only [flat, List.flatMap_cons, List.length_append, List.length_map, h1, List.length_cons] at h2 ⊢
    omega
def FS.ok (w : World) (x : FS) : Prop :=
  (∃ cur, w.heap[x.g]? = some (.cells cur 93 (0, 0)) ∧ cur.size = x.cap * 64 ∧ cur.toList.take (x.vs.length * 64) = flat x.vs) ∧ x.vs.length ≤ x.cap ∧ x.cap ≤ maxLen ∧ (∀ v ∈ x.vs, v.length = 64) ∧ x.vs ≠ []
theorem FS.ok.lt {w : World} {x : FS} (h : x.ok w) : x.g < w.heap.size := by
  obtain ⟨⟨cur, hb, _⟩, _⟩ := h; exact (Array.getElem?_eq_some_iff.1 hb).1
theorem FS.ok.same {w w' : World} {x : FS} (h : x.ok w) (e : w'.heap[x.g]? = w.heap[x.g]?) : x.ok w' := by
  obtain ⟨⟨cur, hb, r⟩, s⟩ := h; exact ⟨⟨cur, e.trans hb, r⟩, s⟩
theorem FS.ok.row {w : World} {x : FS} (h : x.ok w) : w.ownsRow 0 93 64 (fsV x) x.vs.length (flat x.vs) := by
  obtain ⟨⟨cur, hb, hs, ht⟩, h1, h2, h3, _⟩ := h
  exact ⟨flat_len _ h3, .inr ⟨x.g, x.cap, cur, rfl, Nat.zero_le _, hb, h1, h2, hs, ht⟩⟩

/-- The blocks of a disk beside its own: the maps, and what lies in them, in the order in which the maps have it. -/
structure Sh where
  lb : Nat
  fb : Nat
  L : List (Int × Nat × List (Int × List Nat))
  F : List (Int × Nat × List (Int × FS))
def inV {β : Type} (x : Nat × β) : Value := .map (some x.1)
def Sh.lblocks (L : List (Int × Nat × List (Int × List Nat))) : List Nat := L.map (·.2.1)
def Sh.fblocks (F : List (Int × Nat × List (Int × FS))) : List Nat := F.flatMap fun p => p.2.1 :: p.2.2.map (·.2.g)
def Sh.blocks (sh : Sh) : List Nat := sh.lb :: sh.fb :: (Sh.lblocks sh.L ++ Sh.fblocks sh.F)

structure Held (w : World) (sh : Sh) : Prop where
  hl : MapAt .u64 inV w sh.lb sh.L
  hf : MapAt .u64 inV w sh.fb sh.F
  hli : ∀ p ∈ sh.L, MapAt .i64 verV w p.2.1 p.2.2 ∧ (∀ s ∈ p.2.2, s.2.length = 64) ∧ p.2.2 ≠ []
  hfi : ∀ p ∈ sh.F, MapAt .i64 fsV w p.2.1 p.2.2 ∧ (∀ s ∈ p.2.2, s.2.ok w) ∧ p.2.2 ≠ []

theorem mem_lblocks {L : List (Int × Nat × List (Int × List Nat))} {p : Int × Nat × List (Int × List Nat)} (h : p ∈ L) : p.2.1 ∈ Sh.lblocks L := List.mem_map.2 ⟨p, h, rfl⟩
theorem mem_fblocks {F : List (Int × Nat × List (Int × FS))} {p : Int × Nat × List (Int × FS)} (h : p ∈ F) : p.2.1 ∈ Sh.fblocks F := List.mem_flatMap.2 ⟨p, h, .head _⟩
theorem mem_fblocks2 {F : List (Int × Nat × List (Int × FS))} {p : Int × Nat × List (Int × FS)} (h : p ∈ F) {s : Int × FS} (hs : s ∈ p.2.2) : s.2.g ∈ Sh.fblocks F := List.mem_flatMap.2 ⟨p, h, .tail _ (List.mem_map.2 ⟨s, hs, rfl⟩)⟩
theorem Held.same {w w' : World} {sh : Sh} (h : Held w sh) (e : ∀ b ∈ sh.blocks, w'.heap[b]? = w.heap[b]?) : Held w' sh := by
  refine ⟨h.hl.same (e _ (.head _)), h.hf.same (e _ (.tail _ (.head _))), fun p hp => ?_, fun p hp => ?_⟩
  · obtain ⟨h1, h2⟩ := h.hli p hp
    exact ⟨h1.same (e _ (.tail _ (.tail _ (List.mem_append_left _ (mem_lblocks hp))))), h2⟩
  · obtain ⟨h1, h2, h3⟩ := h.hfi p hp
    exact ⟨h1.same (e _ (.tail _ (.tail _ (List.mem_append_right _ (mem_fblocks hp))))), fun s hs => (h2 s hs).same (e _ (.tail _ (.tail _ (List.mem_append_right _ (mem_fblocks2 hp hs))))), h3⟩
theorem Held.lt {w : World} {sh : Sh} (h : Held w sh) : ∀ b ∈ sh.blocks, b < w.heap.size := by
  intro b hb
  rcases List.mem_cons.1 hb with rfl | hb
  · exact h.hl.lt
  rcases List.mem_cons.1 hb with rfl | hb
  · exact h.hf.lt
  rcases List.mem_append.1 hb with hb | hb
  · obtain ⟨p, hp, rfl⟩ := List.mem_map.1 hb
    exact (h.hli p hp).1.lt
  · obtain ⟨p, hp, hb⟩ := List.mem_flatMap.1 hb
    rcases List.mem_cons.1 hb with rfl | hb
    · exact (h.hfi p hp).1.lt
    · obtain ⟨s, hs, rfl⟩ := List.mem_map.1 hb
      exact ((h.hfi p hp).2.1 s hs).lt

/-- A sector: what lasts, and what was written since. -/
structure Sec where
  area : Int
  n : Int
  last : Option (List Nat)
  fresh : List (List Nat)
def Sec.before (s t : Sec) : Prop := s.area < t.area ∨ (s.area = t.area ∧ s.n < t.n)
def findS (a n : Int) : List Sec → Option Sec
  | [] => none
  | s :: r => if s.area = a ∧ s.n = n then some s else findS a n r
/-- What is read of a sector. -/
def Sec.cur (s : Sec) : Option (List Nat) := match s.fresh.getLast? with | some v => some v | none => s.last
def lget (sh : Sh) (a n : Int) : Option (List Nat) := (mget a sh.L).bind fun x => mget n x.2
def fget (sh : Sh) (a n : Int) : List (List Nat) := match (mget a sh.F).bind fun x => mget n x.2 with | some x => x.vs | none => []

/-- The sectors that the maps hold. -/
structure Rep (sh : Sh) (S : List Sec) : Prop where
  sorted : S.Pairwise Sec.before
  last : ∀ a n, lget sh a n = (findS a n S).bind (·.last)
  fresh : ∀ a n, fget sh a n = ((findS a n S).map (·.fresh)).getD []
  there : ∀ s ∈ S, s.last ≠ none ∨ s.fresh ≠ []

/-- A disk as the document has it. -/
structure DS where
  room : Int
  steps : Int
  ahead : Int
  dead : Bool
  armed : Bool
  secs : List Sec
def i64v (n : Int) : Value := .int .i64 n
/-- A disk in block p: its numbers, its sectors; fp: all blocks that are its own. N: no number of it is greater. -/
def DiskAt (N : Nat) (w : World) (p : Nat) (d : DS) (fp : List Nat) : Prop :=
  ∃ sh : Sh, w.heap[p]? = some (.cells #[.int .i64 d.room, .int .i64 (d.secs.length : Int), .int .i64 d.steps, .bool d.dead, .bool d.armed, .int .i64 d.ahead, .map (some sh.lb), .map (some sh.fb)] 73 (0, 0)) ∧
    Held w sh ∧ Rep sh d.secs ∧ fp = p :: sh.blocks ∧ fp.Nodup ∧ 0 ≤ d.room ∧ d.room ≤ 9223372036854775807 ∧ 0 ≤ d.steps ∧ d.steps ≤ N ∧ d.secs.length ≤ N ∧ (d.secs.length : Int) ≤ d.room ∧ (∀ s ∈ d.secs, s.fresh.length ≤ N) ∧
    -9223372036854775808 ≤ d.ahead ∧ d.ahead ≤ 9223372036854775807 ∧ (d.armed = true → 0 ≤ d.ahead)

/-- No block that was there is changed but those of fp. -/
structure Only (fp : List Nat) (w w' : World) : Prop where
  os : w'.os = w.os
  tape : w'.tape = w.tape
  output : w'.output = w.output
  size : w.heap.size ≤ w'.heap.size
  block : ∀ k, k < w.heap.size → k ∉ fp → w'.heap[k]? = w.heap[k]?
theorem Only.refl (fp : List Nat) (w : World) : Only fp w w := ⟨rfl, rfl, rfl, Nat.le_refl _, fun _ _ _ => rfl⟩
theorem Only.trans {fp fp' : List Nat} {a b c : World} (h : Only fp a b) (k : Only fp' b c) (hs : ∀ x ∈ fp', x ∈ fp ∨ a.heap.size ≤ x) : Only fp a c :=
  ⟨k.os.trans h.os, k.tape.trans h.tape, k.output.trans h.output, Nat.le_trans h.size k.size, fun i hi hr => (k.block i (Nat.lt_of_lt_of_le hi h.size) (fun hx => by
    rcases hs i hx with h1 | h1
    · exact hr h1
    · omega)).trans (h.block i hi hr)⟩
theorem Only.of_below {fp : List Nat} {w w' : World} (h : Below w.heap.size w w') : Only fp w w' := ⟨h.os, h.tape, h.output, h.size, fun k hk _ => h.block k hk⟩
theorem Only.of_one {fp : List Nat} {b : Nat} {w w' : World} (h : One b w w') (hb : b ∈ fp) : Only fp w w' := ⟨h.os, h.tape, h.output, Nat.le_of_eq h.size.symm, fun k _ hk => h.block k (fun e => hk (e ▸ hb))⟩
theorem Only.then {fp fp' : List Nat} {a b c : World} (h : Only fp a b) (k : Only fp' b c) (hs : ∀ x ∈ fp', x ∈ fp) : Only fp a c := h.trans k fun x hx => .inl (hs x hx)
theorem Only.below {fp : List Nat} {B : Nat} {w w' : World} (h : Only fp w w') (hB : B ≤ w.heap.size) (hf : ∀ x ∈ fp, B ≤ x) : Below B w w' :=
  ⟨h.os, h.tape, h.output, h.size, fun k hk => h.block k (by omega) (fun hx => by have := hf k hx; omega)⟩
theorem Only.drew {fp : List Nat} {a w : World} (h : Only fp a w) : Only fp a w.drew := ⟨h.os, h.tape, h.output, h.size, h.block⟩
theorem Only.drewN {fp : List Nat} {a w : World} (h : Only fp a w) (n : Nat) : Only fp a (w.drewN n) := ⟨h.os, h.tape, h.output, h.size, h.block⟩

theorem DiskAt.lt {N : Nat} {w : World} {p : Nat} {d : DS} {fp : List Nat} (h : DiskAt N w p d fp) : ∀ b ∈ fp, b < w.heap.size := by
  obtain ⟨sh, h1, h2, _, rfl, _⟩ := h
  intro b hb
  rcases List.mem_cons.1 hb with rfl | hb
  · exact (Array.getElem?_eq_some_iff.1 h1).1
  · exact h2.lt b hb
theorem DiskAt.mem {N : Nat} {w : World} {p : Nat} {d : DS} {fp : List Nat} (h : DiskAt N w p d fp) : p ∈ fp := by
  obtain ⟨sh, h1, h2, _, rfl, _⟩ := h; exact .head _
/-- A disk stays as it is while its blocks do. -/
theorem DiskAt.same {N : Nat} {w w' : World} {p : Nat} {d : DS} {fp : List Nat} (h : DiskAt N w p d fp) (e : ∀ b ∈ fp, w'.heap[b]? = w.heap[b]?) : DiskAt N w' p d fp := by
  obtain ⟨sh, h1, h2, h3, rfl, h5⟩ := h
  exact ⟨sh, (e p (.head _)).trans h1, h2.same fun b hb => e b (.tail _ hb), h3, rfl, h5⟩
theorem DiskAt.below {N : Nat} {w w' : World} {p : Nat} {d : DS} {fp : List Nat} (h : DiskAt N w p d fp) (hb : Below w.heap.size w w') : DiskAt N w' p d fp := h.same fun b hx => hb.block b (h.lt b hx)
theorem DiskAt.apart {N : Nat} {w w' : World} {p : Nat} {d : DS} {fp fq : List Nat} (h : DiskAt N w p d fp) (hb : Only fq w w') (hd : ∀ x ∈ fp, x ∉ fq) : DiskAt N w' p d fp := h.same fun b hx => hb.block b (h.lt b hx) (hd b hx)
theorem DiskAt.mono {N M : Nat} {w : World} {p : Nat} {d : DS} {fp : List Nat} (h : DiskAt N w p d fp) (hm : N ≤ M) : DiskAt M w p d fp := by
  obtain ⟨sh, h1, h2, h3, h4, h5, h6, h7, h8, h9, h10, h11, h12, h13⟩ := h
  exact ⟨sh, h1, h2, h3, h4, h5, h6, h7, h8, by omega, by omega, h11, fun s hs => Nat.le_trans (h12 s hs) hm, h13⟩
end Go.Proofs.YthecngkdmnadoaaGreat

/- The library's sort at uint64: rows of numbers in memory, and what turns when one is sorted. -/
namespace Go.Proofs.YthecngkdmnadoaaGreat
open Go.RowKit Go.Sort
set_option maxRecDepth 100000
namespace SrtU

abbrev enc : Int → Value := Value.int .u64
/-- Block blk has turned in the n cells from off on alone; other blocks stand; new ones may be. -/
structure RStep (blk off n : Nat) (w w' : World) : Prop where
  os : w'.os = w.os
  tape : w'.tape = w.tape
  output : w'.output = w.output
  size : w.heap.size ≤ w'.heap.size
  block : ∀ k, k < w.heap.size → k ≠ blk → w'.heap[k]? = w.heap[k]?
  own : ∀ c e fr, w.heap[blk]? = some (.cells c e fr) → ∃ c', w'.heap[blk]? = some (.cells c' e fr) ∧ c'.size = c.size ∧ ∀ k, k < off ∨ off + n ≤ k → c'[k]? = c[k]?
theorem RStep.refl (blk off n : Nat) (w : World) : RStep blk off n w w := ⟨rfl, rfl, rfl, Nat.le_refl _, fun _ _ _ => rfl, fun c _ _ h => ⟨c, h, rfl, fun _ _ => rfl⟩⟩
theorem RStep.trans {blk off n : Nat} {a b c : World} (h : RStep blk off n a b) (k : RStep blk off n b c) : RStep blk off n a c :=
  ⟨k.os.trans h.os, k.tape.trans h.tape, k.output.trans h.output, Nat.le_trans h.size k.size, fun i hi hr => (k.block i (Nat.lt_of_lt_of_le hi h.size) hr).trans (h.block i hi hr), fun c e fr hc => by
    obtain ⟨c1, h1, h2, h3⟩ := h.own c e fr hc
    obtain ⟨c2, k1, k2, k3⟩ := k.own c1 e fr h1
    exact ⟨c2, k1, k2.trans h2, fun i hi => (k3 i hi).trans (h3 i hi)⟩⟩
theorem RStep.drewN {blk off n : Nat} {a w : World} (h : RStep blk off n a w) (m : Nat) : RStep blk off n a (w.drewN m) := ⟨h.os, h.tape, h.output, h.size, h.block, h.own⟩
theorem RStep.drew {blk off n : Nat} {a w : World} (h : RStep blk off n a w) : RStep blk off n a w.drew := ⟨h.os, h.tape, h.output, h.size, h.block, h.own⟩
theorem RStep.setCell {blk off n : Nat} {a w : World} (h : RStep blk off n a w) {i : Nat} (hi : i < n) (v : Value) : RStep blk off n a (w.setCell ⟨blk, off + i, none⟩ v) :=
  h.trans ⟨rfl, rfl, rfl, by simp [World.setCell], fun k _ hk => Below.heap_setCell _ _ _ _ hk, fun c e fr hc => ⟨c.setIfInBounds (off + i) v, by simp [World.setCell, Array.getElem?_modify, hc], by simp, fun k hk => by
    rw [Array.getElem?_setIfInBounds_ne (by omega)]⟩⟩
theorem RStep.alloc {blk off n : Nat} {a w : World} (h : RStep blk off n a w) (hb : blk < w.heap.size) (o : Obj) : RStep blk off n a (w.alloc o) :=
  h.trans ⟨rfl, rfl, rfl, by simp, fun k hk _ => Below.heap_alloc _ _ _ hk, fun c e fr hc => ⟨c, (Below.heap_alloc _ _ _ hb).trans hc, rfl, fun _ _ => rfl⟩⟩
theorem holds_swap {w : World} {blk off : Nat} {d : Array Int} (h : Holds enc w blk off d) {i j : Nat} (hi : i < d.size) (hj : j < d.size) :
    Holds enc ((w.setCell ⟨blk, off + i, none⟩ (enc d[j]!)).setCell ⟨blk, off + j, none⟩ (enc d[i]!)) blk off (swp d i j) := by
  rw [show (w.setCell ⟨blk, off + i, none⟩ (enc d[j]!)).setCell ⟨blk, off + j, none⟩ (enc d[i]!) = putRow enc w blk off (swp d i j) from by
    rw [← putRow_swp enc w blk off d i j hi hj, putRow_self enc w blk off d h]]
  exact holds_putRow enc w blk off d (swp d i j) h (size_swp d i j)
theorem holds_drewN {w : World} {blk off : Nat} {d : Array Int} (h : Holds enc w blk off d) (n : Nat) : Holds enc (w.drewN n) blk off d := h
theorem holds_drew {w : World} {blk off : Nat} {d : Array Int} (h : Holds enc w blk off d) : Holds enc w.drew blk off d := h
theorem holds_same {w w' : World} {blk off : Nat} {d : Array Int} (h : Holds enc w blk off d) (e : w'.heap[blk]? = w.heap[blk]?) : Holds enc w' blk off d := fun j hj =>
  ⟨(World.cell?_of_block (w := w) (a := ⟨blk, off + j, none⟩) e).trans (h j hj).1, (World.frozen?_of_block (w := w) (a := ⟨blk, off + j, none⟩) e).trans (h j hj).2⟩
/-- A row whose numbers are d, behind what has been done since w. -/
structure At (blk off : Nat) (w w' : World) (n : Nat) (d : Array Int) : Prop where
  holds : Holds enc w' blk off d
  size : d.size = n
  step : RStep blk off n w w'
theorem At.drewN {blk off n : Nat} {w w' : World} {d : Array Int} (h : At blk off w w' n d) (m : Nat) : At blk off w (w'.drewN m) n d := ⟨h.holds, h.size, h.step.drewN m⟩
theorem At.drew {blk off n : Nat} {w w' : World} {d : Array Int} (h : At blk off w w' n d) : At blk off w w'.drew n d := ⟨h.holds, h.size, h.step.drew⟩
theorem At.swap {blk off n : Nat} {w w' : World} {d : Array Int} (h : At blk off w w' n d) {i j : Nat} (hi : i < n) (hj : j < n) :
    At blk off w ((w'.setCell ⟨blk, off + i, none⟩ (enc d[j]!)).setCell ⟨blk, off + j, none⟩ (enc d[i]!)) n (swp d i j) :=
  ⟨holds_swap h.holds (by rw [h.size]; exact hi) (by rw [h.size]; exact hj), by rw [size_swp]; exact h.size, (h.step.setCell hi _).setCell hj _⟩
theorem At.trans {blk off n : Nat} {w w1 w2 : World} {d d' : Array Int} (h : At blk off w w1 n d) (k : At blk off w1 w2 n d') : At blk off w w2 n d' := ⟨k.holds, k.size, h.step.trans k.step⟩
/-- The families that the walk reads. -/
theorem At.fam {blk off n : Nat} {w w' : World} {d : Array Int} (h : At blk off w w' n d) : ∃ G : Nat → Int, (∀ t, G t = d[t]!) ∧ (∀ t, t < n → w'.cell? ⟨blk, off + t, none⟩ = some (.int .u64 (G t))) ∧ ∀ t, t < n → w'.frozen? ⟨blk, off + t, none⟩ = false :=
  ⟨fun t => d[t]!, fun _ => rfl, fun t ht => (h.holds t (by rw [h.size]; exact ht)).1, fun t ht => (h.holds t (by rw [h.size]; exact ht)).2⟩

theorem wrapId {x : Int} (h1 : -9223372036854775808 ≤ x) (h2 : x ≤ 9223372036854775807) : IntKind.i64.wrap x = x := by
  simp [IntKind.wrap, IntKind.bits, IntKind.signed]; omega
set_option maxHeartbeats 1000000 in
theorem isNaN_any (x : Int) (w : World) : Calls Tryz.prog 129 #[.int .u64 x] w fun e w' => e = .returned (.bool false) ∧ w' = w := by
  go_enter Tryz.func129, Tryz.ntmps129
  go_wp2
  go_ret
  exact ⟨by simp, rfl⟩
set_option maxHeartbeats 1000000 in
theorem Less_any (x y : Int) (w : World) : Calls Tryz.prog 110 #[.int .u64 x, .int .u64 y] w fun e w' => e = .returned (.bool (ltInt x y)) ∧ w' = w := by
  go_enter Tryz.func110, Tryz.ntmps110
  go_wp2_with (go_at_call 129; refine (isNaN_any _ _).mono ?_; rintro e w' ⟨rfl, rfl⟩)
  go_ret
  exact ⟨rfl, rfl⟩
end SrtU
end Go.Proofs.YthecngkdmnadoaaGreat

/- The library's sort at uint64: insertion, reversing, sifting, the heap. -/
namespace Go.Proofs.YthecngkdmnadoaaGreat
open Go.RowKit Go.Sort
set_option maxRecDepth 100000
namespace SrtU

theorem ins_go {a j : Nat} {d : Array Int} (hj : a < j) (hl : ltInt d[j]! d[j - 1]! = true) : insInner ltInt a j d = insInner ltInt a (j - 1) (swp d j (j - 1)) := by
  obtain ⟨k, rfl⟩ : ∃ k, j = k + 1 := ⟨j - 1, by omega⟩
  rw [insInner]
  simp only [Nat.add_sub_cancel] at hl ⊢
  rw [if_pos (by simp [hj, hl])]
theorem ins_stop {a j : Nat} {d : Array Int} (h : j ≤ a ∨ ltInt d[j]! d[j - 1]! = false) : insInner ltInt a j d = d := by
  cases j with
  | zero => rfl
  | succ k =>
    rw [insInner]
    simp only [Nat.add_sub_cancel] at h
    rw [if_neg]
    rcases h with h | h
    · simp; omega
    · simp [h]
theorem outer_go {a b i : Nat} {d : Array Int} (h : i < b) : insOuter ltInt a b i d = insOuter ltInt a b (i + 1) (insInner ltInt a i d) := by rw [insOuter, if_pos h]
set_option maxHeartbeats 4000000 in
theorem insertionSort_any (blk off cap a b : Nat) (d : Array Int) (w : World) (hH : Holds enc w blk off d) (hab : a ≤ b) (hb : b ≤ d.size) (hsz : d.size < 4611686018427387904) :
    Calls Tryz.prog 104 #[.slice (some ⟨blk, off, none⟩) d.size cap, .int .i64 a, .int .i64 b] w fun e w' =>
      e = .returned (.tuple #[]) ∧ At blk off w w' d.size (Sort.insertionSort ltInt d a b) := by
  have HA : Hid (At blk off w w d.size d) := ⟨hH, rfl, RStep.refl _ _ _ _⟩
  have HE : Hid (Sort.insertionSort ltInt d a b = insOuter ltInt a b (a + 1) d) := rfl
  generalize hn : d.size = n at *
  clear hH hn
  go_enter Tryz.func104, Tryz.ntmps104
  go_wp2
  go_loopw [6] (fun vi wr => ∃ (i : Nat) (dk : Array Int), vi = .int .i64 i ∧ a < i ∧ i ≤ b + 1 ∧ At blk off w wr n dk ∧ insOuter ltInt a b i dk = insOuter ltInt a b (a + 1) d) (fun vi _ => b + 1 - (intOf vi).toNat)
  case atStart => exact ⟨a + 1, d, by go_num, by omega, by omega, HA.out, rfl⟩
  case round =>
    obtain ⟨i, dk, rfl, hai, hib, hAt, hO⟩ := hrel
    have HO : Hid (insOuter ltInt a b i dk = insOuter ltInt a b (a + 1) d) := hO
    have HK : Hid (At blk off w wr n dk) := hAt
    clear hO hAt
    go_wp2
    · have hib2 : i < b := by assumption
      go_loopw [7] (fun vj wr2 => ∃ (j : Nat) (dj : Array Int), vj = .int .i64 j ∧ a ≤ j ∧ j ≤ i ∧ At blk off w wr2 n dj ∧ insInner ltInt a j dj = insInner ltInt a i dk) (fun vj _ => (intOf vj).toNat)
      case atStart => exact ⟨i, dk, rfl, by omega, Nat.le_refl _, HK.out, rfl⟩
      case round =>
        obtain ⟨j, dj, rfl, haj, hji, hAj, hI⟩ := hrel
        obtain ⟨G, hG, hcw, hfw⟩ := hAj.fam
        have HG : Hid (∀ t, G t = dj[t]!) := hG
        have HAj : Hid (At blk off w wr n dj) := hAj
        have HI : Hid (insInner ltInt a j dj = insInner ltInt a i dk) := hI
        clear hG hAj hI
        go_wp2
        by_cases hja : a < j
        · go_quiet (first | (go_at_call 110; refine Calls.quiet_of_same (Less_any _ _ _)))
          go_wp2
          · have hl : ltInt (G j) (G (j - 1)) = true := by assumption
            go_region
            all_goals go_wp2
            go_roundw
            case rel =>
              refine ⟨j - 1, swp dj j (j - 1), by congr 1; omega, by omega, by omega, ?_, ?_⟩
              · rw [HG.out, HG.out]
                exact ((HAj.out.drewN _).drew).swap (by omega) (by omega)
              · rw [← HI.out, ins_go hja (by rw [← HG.out, ← HG.out]; exact hl)]
            case measure => simp [intOf]; omega
          · have hl : ltInt (G j) (G (j - 1)) = false := by assumption
            go_roundw
            case rel => exact ⟨i + 1, dj, by go_num, by omega, by omega, HAj.out.drewN _, by rw [← HO.out, outer_go hib2, ← HI.out, ins_stop (.inr (by rw [← HG.out, ← HG.out]; exact hl))]⟩
            case measure => simp [intOf]; omega
        · go_quiet (first | (go_at_call 110; refine Calls.quiet_of_same (Less_any _ _ _)))
          go_wp2
          go_roundw
          case rel => exact ⟨i + 1, dj, by go_num, by omega, by omega, HAj.out.drewN _, by rw [← HO.out, outer_go hib2, ← HI.out, ins_stop (.inl (by omega))]⟩
          case measure => simp [intOf]; omega
    · have hge : ¬ i < b := by omega
      go_end0
      exact ⟨rfl, by rw [HE.out, ← HO.out, insOuter, if_neg hge]; exact HK.out⟩
end SrtU
end Go.Proofs.YthecngkdmnadoaaGreat
