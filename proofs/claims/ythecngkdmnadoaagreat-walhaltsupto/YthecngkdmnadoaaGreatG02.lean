/- Texts that were written apart, joined. -/
import Derived.Test.YthecngkdmnadoaaGreatG00
import Derived.Test.YthecngkdmnadoaaGreatMapAt
import Derived.Deep.MidRow
/- Versions of sectors: arrays of 64 bytes, as values and in memory. -/
namespace Go.Proofs.YthecngkdmnadoaaGreat
open Go.RowKit
set_option maxRecDepth 100000

theorem info_ver : (Tryz.prog.info? 93).map (fun i => (i.zero, i.size, i.bytes)) = some (some (.agg (Array.replicate 64 (.int .u8 0))), 64, 64) := by kernel_rfl
/-- The version without a byte that is not 0. -/
def zver : List Nat := List.replicate 64 0
def verC (v : List Nat) : Array Value := (v.map bv).toArray
def verV (v : List Nat) : Value := .agg (verC v)
theorem zver_len : zver.length = 64 := by simp [zver]
theorem verC_size (v : List Nat) : (verC v).size = v.length := by simp [verC]
theorem verC_zero : verC zver = Array.replicate 64 (.int .u8 0) := by
  rw [verC, zver, List.map_replicate, List.toArray_replicate]; rfl

/-- An array with values laid over it from o on. -/
def splice (C : Array Value) : Nat → List Value → Array Value
  | _, [] => C
  | o, v :: r => splice (C.setIfInBounds o v) (o + 1) r
theorem splice_size (vs : List Value) : ∀ (C : Array Value) (o : Nat), (splice C o vs).size = C.size := by
  induction vs with
  | nil => intro C o; rfl
  | cons v r ih => intro C o; rw [splice, ih]; simp
theorem splice_get (vs : List Value) : ∀ (C : Array Value) (o i : Nat), i < C.size → (splice C o vs)[i]? = if o ≤ i ∧ i < o + vs.length then vs[i - o]? else C[i]? := by
  induction vs with
  | nil => intro C o i hi; rw [splice, if_neg]; simp
  | cons v r ih =>
    intro C o i hi
    rw [splice, ih _ _ _ (by simpa using hi)]
    by_cases h1 : o + 1 ≤ i ∧ i < o + 1 + r.length
    · rw [if_pos h1, if_pos (by simp; omega)]
      have e : i - o = (i - (o + 1)) + 1 := by omega
      rw [e, List.getElem?_cons_succ]
    · rw [if_neg h1]
      by_cases h2 : i = o
      · subst h2
        rw [if_pos (by simp)]
        simp [hi]
      · rw [if_neg (by simp; omega), Array.getElem?_setIfInBounds_ne (by omega)]
theorem splice_full (C : Array Value) (vs : List Value) (h : vs.length = C.size) : splice C 0 vs = vs.toArray := by
  apply Array.ext_getElem?
  intro i
  by_cases hi : i < C.size
  · rw [splice_get _ _ _ _ hi, if_pos (by omega)]; simp
  · rw [Array.getElem?_eq_none (by rw [splice_size]; omega), Array.getElem?_eq_none (by simp; omega)]
theorem setCell_new (w : World) (C : Array Value) (t : TypeId) (f : Nat × Nat) (o : Nat) (v : Value) : (w.alloc (.cells C t f)).setCell ⟨w.heap.size, o, none⟩ v = w.alloc (.cells (C.setIfInBounds o v) t f) := by
  have e : (w.heap.push (.cells C t f)).modify w.heap.size (fun | .cells c elem frozen => .cells (c.setIfInBounds o v) elem frozen | x => x) = w.heap.push (.cells (C.setIfInBounds o v) t f) := by
    apply Array.ext_getElem?
    intro i
    rw [Array.getElem?_modify, Array.getElem?_push, Array.getElem?_push]
    by_cases hi : i = w.heap.size
    · subst hi; simp
    · rw [if_neg (fun h => hi h.symm), if_neg hi, if_neg hi]
  simp only [World.setCell, World.alloc, Option.isSome_none, Bool.false_eq_true, if_false]
  rw [World.mk.injEq]
  exact ⟨e, rfl, rfl, rfl, rfl⟩
theorem setCells_new (w : World) (t : TypeId) (f : Nat × Nat) (vs : List Value) : ∀ (C : Array Value) (o : Nat), (w.alloc (.cells C t f)).setCells w.heap.size o vs = w.alloc (.cells (splice C o vs) t f) := by
  induction vs with
  | nil => intro C o; rfl
  | cons v r ih => intro C o; rw [World.setCells, setCell_new, ih, splice]
theorem new_there (w : World) (C : Array Value) (t : TypeId) (n : Nat) (h : n ≤ C.size) : (w.alloc (.cells C t)).there w.heap.size 0 n := by
  intro j hj
  have hb := (MapKept.heap_alloc w (.cells C t)).1
  simp only [World.cell?, World.frozen?, hb, Nat.zero_add]
  constructor
  · simp; omega
  · simp
theorem verV_zero : verV zver = .agg (Array.replicate 64 (.int .u8 0)) := by rw [verV, verC_zero]
theorem verC_one (v : List Nat) : (verC v).all (·.oneCell') = true := by
  refine all_oneCell_toArray fun x hx => ?_
  obtain ⟨y, _, rfl⟩ := List.mem_map.1 hx
  rfl
theorem zero_ver (w : World) : (zeroValue 93).run Tryz.prog w = .ok (verV zver) w := by
  obtain ⟨i, hi, hz, hs, hb⟩ := info_parts info_ver
  rw [verV_zero]
  simp [zeroValue, typeInfo, hi, hz, Result.andThen]
theorem run_alloc_ver (w : World) (x : Value) : (Instr.alloc 93 true x).run Tryz.prog w = .ok (.pointer (some ⟨w.heap.size, 0, none⟩)) (w.alloc (.cells (verC zver) 93)) := by
  simp only [Instr.alloc, Sem.run_bind, zero_ver, Result.andThen, newVar, newRow]
  rfl
theorem run_box_ver (w : World) (v : List Nat) : (Instr.box 93 (verV v)).run Tryz.prog w = .ok (.pointer (some ⟨w.heap.size, 0, none⟩)) (w.alloc (.cells (verC v) 93)) := by
  simp only [Instr.box, Sem.run_bind, newVar, newRow]
  rfl
theorem run_store_ver (w : World) (v : List Nat) (hv : v.length = 64) : (Instr.storeAt 93 (.pointer (some ⟨w.heap.size, 0, none⟩)) (verV v)).run Tryz.prog (w.alloc (.cells (verC zver) 93)) = .ok () (w.alloc (.cells (verC v) 93)) := by
  obtain ⟨i, hi, hz, hs, hb⟩ := info_parts info_ver
  have hsz : (verC v).size = 64 := by rw [verC_size, hv]
  have hz64 : (verC zver).size = 64 := by rw [verC_size, zver_len]
  rw [verV, run_storeAt_mid _ _ _ _ (verC v) (by rw [hsz, ← hz64]; exact new_there _ _ _ _ (Nat.le_refl _)) (by rw [hi, hsz]; simp [hs]) (verC_one v), setCells_new, splice_full _ _ (by rw [Array.length_toList, hsz, hz64])]
end Go.Proofs.YthecngkdmnadoaaGreat

/- A disk in memory: what its blocks hold, and what sectors that is. -/
namespace Go.Proofs.YthecngkdmnadoaaGreat
open Go.RowKit
set_option maxRecDepth 100000

/-- A list of versions in memory: its block, how many there is room for, and they. -/
structure FS where
  g : Nat
  cap : Nat
  vs : List (List Nat)
def fsV (x : FS) : Value := .slice (some ⟨x.g, 0, none⟩) x.vs.length x.cap
def flat (vs : List (List Nat)) : List Value := vs.flatMap (·.map bv)
theorem flat_len (vs : List (List Nat)) (h : ∀ v ∈ vs, v.length = 64) : (flat vs).length = vs.length * 64 := by
  induction vs with
  | nil => rfl
  | cons v r ih =>
    have h1 := h v (.head _)
    have h2 := ih fun x hx => h x (.tail _ hx)
    simp only [flat, List.flatMap_cons, List.length_append, List.length_map, h1, List.length_cons] at h2 ⊢
    omega
def FS.ok (w : World) (x : FS) : Prop :=
  (∃ cur, w.heap[x.g]? = some (.cells cur 93 (0, 0)) ∧ cur.size = x.cap * 64 ∧ cur.toList.take (x.vs.length * 64) = flat x.vs) ∧ x.vs.length ≤ x.cap ∧ x.cap ≤ maxLen ∧ (∀ v ∈ x.vs, v.length = 64) ∧ x.vs ≠ []
theorem FS.ok.lt {w : World} {x : FS} (h : x.ok w) : x.g < w.heap.size := by
  obtain ⟨⟨cur, hb, _⟩, _⟩ := h; exact (Array.getElem?_eq_some_iff.1 hb).1
theorem FS.ok.same {w w' : World} {x : FS} (h : x.ok w) (e : w'.heap[x.g]? = w.heap[x.g]?) : x.ok w' := by
  obtain ⟨⟨cur, hb, r⟩, s⟩ := h; exact ⟨⟨cur, e.trans hb, r⟩, s⟩
theorem FS.ok.row {w : World} {x : FS} (h : x.ok w) : w.ownsRow 0 93 64 (fsV x) x.vs.length (flat x.vs) := by
  obtain ⟨⟨cur, hb, hs, ht⟩, h1, h2, h3, _⟩ := h
  exact ⟨flat_len _ h3, .inr ⟨x.g, x.cap, cur, rfl, Nat.zero_le _, hb, h1, h2, hs, ht⟩⟩

/-- The blocks of a disk beside its own: the maps, and what lies in them, in the order in which the maps have it. -/
structure Sh where
  lb : Nat
  fb : Nat
  L : List (Int × Nat × List (Int × List Nat))
  F : List (Int × Nat × List (Int × FS))
def inV {β : Type} (x : Nat × β) : Value := .map (some x.1)
def Sh.lblocks (L : List (Int × Nat × List (Int × List Nat))) : List Nat := L.map (·.2.1)
def Sh.fblocks (F : List (Int × Nat × List (Int × FS))) : List Nat := F.flatMap fun p => p.2.1 :: p.2.2.map (·.2.g)
def Sh.blocks (sh : Sh) : List Nat := sh.lb :: sh.fb :: (Sh.lblocks sh.L ++ Sh.fblocks sh.F)

structure Held (w : World) (sh : Sh) : Prop where
  hl : MapAt .u64 inV w sh.lb sh.L
  hf : MapAt .u64 inV w sh.fb sh.F
  hli : ∀ p ∈ sh.L, MapAt .i64 verV w p.2.1 p.2.2 ∧ (∀ s ∈ p.2.2, s.2.length = 64) ∧ p.2.2 ≠ []
  hfi : ∀ p ∈ sh.F, MapAt .i64 fsV w p.2.1 p.2.2 ∧ (∀ s ∈ p.2.2, s.2.ok w) ∧ p.2.2 ≠ []

theorem mem_lblocks {L : List (Int × Nat × List (Int × List Nat))} {p : Int × Nat × List (Int × List Nat)} (h : p ∈ L) : p.2.1 ∈ Sh.lblocks L := List.mem_map.2 ⟨p, h, rfl⟩
theorem mem_fblocks {F : List (Int × Nat × List (Int × FS))} {p : Int × Nat × List (Int × FS)} (h : p ∈ F) : p.2.1 ∈ Sh.fblocks F := List.mem_flatMap.2 ⟨p, h, .head _⟩
theorem mem_fblocks2 {F : List (Int × Nat × List (Int × FS))} {p : Int × Nat × List (Int × FS)} (h : p ∈ F) {s : Int × FS} (hs : s ∈ p.2.2) : s.2.g ∈ Sh.fblocks F := List.mem_flatMap.2 ⟨p, h, .tail _ (List.mem_map.2 ⟨s, hs, rfl⟩)⟩
theorem Held.same {w w' : World} {sh : Sh} (h : Held w sh) (e : ∀ b ∈ sh.blocks, w'.heap[b]? = w.heap[b]?) : Held w' sh := by
  refine ⟨h.hl.same (e _ (.head _)), h.hf.same (e _ (.tail _ (.head _))), fun p hp => ?_, fun p hp => ?_⟩
  · obtain ⟨h1, h2⟩ := h.hli p hp
    exact ⟨h1.same (e _ (.tail _ (.tail _ (List.mem_append_left _ (mem_lblocks hp))))), h2⟩
  · obtain ⟨h1, h2, h3⟩ := h.hfi p hp
    exact ⟨h1.same (e _ (.tail _ (.tail _ (List.mem_append_right _ (mem_fblocks hp))))), fun s hs => (h2 s hs).same (e _ (.tail _ (.tail _ (List.mem_append_right _ (mem_fblocks2 hp hs))))), h3⟩
theorem Held.lt {w : World} {sh : Sh} (h : Held w sh) : ∀ b ∈ sh.blocks, b < w.heap.size := by
  intro b hb
  rcases List.mem_cons.1 hb with rfl | hb
  · exact h.hl.lt
  rcases List.mem_cons.1 hb with rfl | hb
  · exact h.hf.lt
  rcases List.mem_append.1 hb with hb | hb
  · obtain ⟨p, hp, rfl⟩ := List.mem_map.1 hb
    exact (h.hli p hp).1.lt
  · obtain ⟨p, hp, hb⟩ := List.mem_flatMap.1 hb
    rcases List.mem_cons.1 hb with rfl | hb
    · exact (h.hfi p hp).1.lt
    · obtain ⟨s, hs, rfl⟩ := List.mem_map.1 hb
      exact ((h.hfi p hp).2.1 s hs).lt

/-- A sector: what lasts, and what was written since. -/
structure Sec where
  area : Int
  n : Int
  last : Option (List Nat)
  fresh : List (List Nat)
def Sec.before (s t : Sec) : Prop := s.area < t.area ∨ (s.area = t.area ∧ s.n < t.n)
def findS (a n : Int) : List Sec → Option Sec
  | [] => none
  | s :: r => if s.area = a ∧ s.n = n then some s else findS a n r
/-- What is read of a sector. -/
def Sec.cur (s : Sec) : Option (List Nat) := match s.fresh.getLast? with | some v => some v | none => s.last
def lget (sh : Sh) (a n : Int) : Option (List Nat) := (mget a sh.L).bind fun x => mget n x.2
def fget (sh : Sh) (a n : Int) : List (List Nat) := match (mget a sh.F).bind fun x => mget n x.2 with | some x => x.vs | none => []

/-- The sectors that the maps hold. -/
structure Rep (sh : Sh) (S : List Sec) : Prop where
  sorted : S.Pairwise Sec.before
  last : ∀ a n, lget sh a n = (findS a n S).bind (·.last)
  fresh : ∀ a n, fget sh a n = ((findS a n S).map (·.fresh)).getD []
  there : ∀ s ∈ S, s.last ≠ none ∨ s.fresh ≠ []

/-- A disk as the document has it. -/
structure DS where
  room : Int
  steps : Int
  ahead : Int
  dead : Bool
  armed : Bool
  secs : List Sec
def i64v (n : Int) : Value := .int .i64 n
/-- A disk in block p: its numbers, its sectors; fp: all blocks that are its own. N: no number of it is greater. -/
def DiskAt (N : Nat) (w : World) (p : Nat) (d : DS) (fp : List Nat) : Prop :=
  ∃ sh : Sh, w.heap[p]? = some (.cells #[.int .i64 d.room, .int .i64 (d.secs.length : Int), .int .i64 d.steps, .bool d.dead, .bool d.armed, .int .i64 d.ahead, .map (some sh.lb), .map (some sh.fb)] 73 (0, 0)) ∧
    Held w sh ∧ Rep sh d.secs ∧ fp = p :: sh.blocks ∧ fp.Nodup ∧ 0 ≤ d.room ∧ d.room ≤ 9223372036854775807 ∧ 0 ≤ d.steps ∧ d.steps ≤ N ∧ d.secs.length ≤ N ∧ (d.secs.length : Int) ≤ d.room ∧ (∀ s ∈ d.secs, s.fresh.length ≤ N) ∧
    -9223372036854775808 ≤ d.ahead ∧ d.ahead ≤ 9223372036854775807 ∧ (d.armed = true → 0 ≤ d.ahead)

/-- No block that was there is changed but those of fp. -/
structure Only (fp : List Nat) (w w' : World) : Prop where
  os : w'.os = w.os
  tape : w'.tape = w.tape
  output : w'.output = w.output
  size : w.heap.size ≤ w'.heap.size
  block : ∀ k, k < w.heap.size → k ∉ fp → w'.heap[k]? = w.heap[k]?
theorem Only.refl (fp : List Nat) (w : World) : Only fp w w := ⟨rfl, rfl, rfl, Nat.le_refl _, fun _ _ _ => rfl⟩
theorem Only.trans {fp fp' : List Nat} {a b c : World} (h : Only fp a b) (k : Only fp' b c) (hs : ∀ x ∈ fp', x ∈ fp ∨ a.heap.size ≤ x) : Only fp a c :=
  ⟨k.os.trans h.os, k.tape.trans h.tape, k.output.trans h.output, Nat.le_trans h.size k.size, fun i hi hr => (k.block i (Nat.lt_of_lt_of_le hi h.size) (fun hx => by
    rcases hs i hx with h1 | h1
    · exact hr h1
    · omega)).trans (h.block i hi hr)⟩
theorem Only.of_below {fp : List Nat} {w w' : World} (h : Below w.heap.size w w') : Only fp w w' := ⟨h.os, h.tape, h.output, h.size, fun k hk _ => h.block k hk⟩
theorem Only.of_one {fp : List Nat} {b : Nat} {w w' : World} (h : One b w w') (hb : b ∈ fp) : Only fp w w' := ⟨h.os, h.tape, h.output, Nat.le_of_eq h.size.symm, fun k _ hk => h.block k (fun e => hk (e ▸ hb))⟩
theorem Only.then {fp fp' : List Nat} {a b c : World} (h : Only fp a b) (k : Only fp' b c) (hs : ∀ x ∈ fp', x ∈ fp) : Only fp a c := h.trans k fun x hx => .inl (hs x hx)
theorem Only.below {fp : List Nat} {B : Nat} {w w' : World} (h : Only fp w w') (hB : B ≤ w.heap.size) (hf : ∀ x ∈ fp, B ≤ x) : Below B w w' :=
  ⟨h.os, h.tape, h.output, h.size, fun k hk => h.block k (by omega) (fun hx => by have := hf k hx; omega)⟩
theorem Only.drew {fp : List Nat} {a w : World} (h : Only fp a w) : Only fp a w.drew := ⟨h.os, h.tape, h.output, h.size, h.block⟩
theorem Only.drewN {fp : List Nat} {a w : World} (h : Only fp a w) (n : Nat) : Only fp a (w.drewN n) := ⟨h.os, h.tape, h.output, h.size, h.block⟩

theorem DiskAt.lt {N : Nat} {w : World} {p : Nat} {d : DS} {fp : List Nat} (h : DiskAt N w p d fp) : ∀ b ∈ fp, b < w.heap.size := by
  obtain ⟨sh, h1, h2, _, rfl, _⟩ := h
  intro b hb
  rcases List.mem_cons.1 hb with rfl | hb
  · exact (Array.getElem?_eq_some_iff.1 h1).1
  · exact h2.lt b hb
theorem DiskAt.mem {N : Nat} {w : World} {p : Nat} {d : DS} {fp : List Nat} (h : DiskAt N w p d fp) : p ∈ fp := by
  obtain ⟨sh, h1, h2, _, rfl, _⟩ := h; exact .head _
/-- A disk stays as it is while its blocks do. -/
theorem DiskAt.same {N : Nat} {w w' : World} {p : Nat} {d : DS} {fp : List Nat} (h : DiskAt N w p d fp) (e : ∀ b ∈ fp, w'.heap[b]? = w.heap[b]?) : DiskAt N w' p d fp := by
  obtain ⟨sh, h1, h2, h3, rfl, h5⟩ := h
  exact ⟨sh, (e p (.head _)).trans h1, h2.same fun b hb => e b (.tail _ hb), h3, rfl, h5⟩
theorem DiskAt.below {N : Nat} {w w' : World} {p : Nat} {d : DS} {fp : List Nat} (h : DiskAt N w p d fp) (hb : Below w.heap.size w w') : DiskAt N w' p d fp := h.same fun b hx => hb.block b (h.lt b hx)
theorem DiskAt.apart {N : Nat} {w w' : World} {p : Nat} {d : DS} {fp fq : List Nat} (h : DiskAt N w p d fp) (hb : Only fq w w') (hd : ∀ x ∈ fp, x ∉ fq) : DiskAt N w' p d fp := h.same fun b hx => hb.block b (h.lt b hx) (hd b hx)
theorem DiskAt.mono {N M : Nat} {w : World} {p : Nat} {d : DS} {fp : List Nat} (h : DiskAt N w p d fp) (hm : N ≤ M) : DiskAt M w p d fp := by
  obtain ⟨sh, h1, h2, h3, h4, h5, h6, h7, h8, h9, h10, h11, h12, h13⟩ := h
  exact ⟨sh, h1, h2, h3, h4, h5, h6, h7, h8, by omega, by omega, h11, fun s hs => Nat.le_trans (h12 s hs) hm, h13⟩
end Go.Proofs.YthecngkdmnadoaaGreat

/- Sectors in their order: written, synced, freed. -/
namespace Go.Proofs.YthecngkdmnadoaaGreat
open Go.RowKit
set_option maxRecDepth 100000

theorem before_trans {s t u : Sec} (h : s.before t) (k : t.before u) : s.before u := by
  unfold Sec.before at *; omega
/-- The sectors with a version more at a, n. -/
def wr (a n : Int) (v : List Nat) : List Sec → List Sec
  | [] => [⟨a, n, none, [v]⟩]
  | s :: r => if s.area = a ∧ s.n = n then { s with fresh := s.fresh ++ [v] } :: r else if a < s.area ∨ (a = s.area ∧ n < s.n) then ⟨a, n, none, [v]⟩ :: s :: r else s :: wr a n v r
theorem findS_none_of {a n : Int} {S : List Sec} (h : ∀ s ∈ S, ¬ (s.area = a ∧ s.n = n)) : findS a n S = none := by
  induction S with
  | nil => rfl
  | cons s r ih => rw [findS, if_neg (h s (.head _))]; exact ih fun t ht => h t (.tail _ ht)
theorem findS_at {a n : Int} {S : List Sec} {s : Sec} (h : findS a n S = some s) : s.area = a ∧ s.n = n := by
  induction S with
  | nil => simp [findS] at h
  | cons t r ih =>
    rw [findS] at h
    split at h
    · rename_i ht; rw [← Option.some.inj h]; exact ht
    · exact ih h
theorem findS_self {S : List Sec} (hs : S.Pairwise Sec.before) {s : Sec} (h : s ∈ S) : findS s.area s.n S = some s := by
  induction S with
  | nil => cases h
  | cons t r ih =>
    obtain ⟨h1, h2⟩ := List.pairwise_cons.1 hs
    rcases List.mem_cons.1 h with rfl | h
    · rw [findS, if_pos ⟨rfl, rfl⟩]
    · have := h1 s h
      rw [findS, if_neg (fun e => by unfold Sec.before at this; omega)]
      exact ih h2 h
theorem wr_mem {a n : Int} {v : List Nat} {S : List Sec} {t : Sec} (h : t ∈ wr a n v S) : t ∈ S ∨ (t.area = a ∧ t.n = n ∧ ((t.last = none ∧ t.fresh = [v]) ∨ ∃ s ∈ S, t.last = s.last ∧ t.fresh = s.fresh ++ [v])) := by
  induction S with
  | nil => simp [wr] at h; subst h; exact .inr ⟨rfl, rfl, .inl ⟨rfl, rfl⟩⟩
  | cons s r ih =>
    rw [wr] at h
    split at h
    · rename_i he
      rcases List.mem_cons.1 h with rfl | h
      · exact .inr ⟨he.1, he.2, .inr ⟨s, .head _, rfl, rfl⟩⟩
      · exact .inl (.tail _ h)
    · split at h
      · rcases List.mem_cons.1 h with rfl | h
        · exact .inr ⟨rfl, rfl, .inl ⟨rfl, rfl⟩⟩
        · exact .inl h
      · rcases List.mem_cons.1 h with rfl | h
        · exact .inl (.head _)
        · rcases ih h with h | ⟨h1, h2, h3 | ⟨s', hs', h3⟩⟩
          · exact .inl (.tail _ h)
          · exact .inr ⟨h1, h2, .inl h3⟩
          · exact .inr ⟨h1, h2, .inr ⟨s', .tail _ hs', h3⟩⟩
theorem wr_sorted {a n : Int} {v : List Nat} {S : List Sec} (hs : S.Pairwise Sec.before) : (wr a n v S).Pairwise Sec.before := by
  induction S with
  | nil => simp [wr]
  | cons s r ih =>
    obtain ⟨h1, h2⟩ := List.pairwise_cons.1 hs
    rw [wr]
    split
    · exact List.pairwise_cons.2 ⟨fun t ht => h1 t ht, h2⟩
    · split
      · rename_i hb
        refine List.pairwise_cons.2 ⟨fun t ht => ?_, hs⟩
        have hsb : (⟨a, n, none, [v]⟩ : Sec).before s := hb
        rcases List.mem_cons.1 ht with rfl | ht
        · exact hsb
        · exact before_trans hsb (h1 t ht)
      · rename_i hne hnb
        refine List.pairwise_cons.2 ⟨fun t ht => ?_, ih h2⟩
        rcases wr_mem ht with ht | ⟨e1, e2, _⟩
        · exact h1 t ht
        · unfold Sec.before; omega
/-- The sector behind a write. -/
def wrS (a n : Int) (v : List Nat) (o : Option Sec) : Sec := match o with | some s => { s with fresh := s.fresh ++ [v] } | none => ⟨a, n, none, [v]⟩
theorem find_wr {a n : Int} {v : List Nat} {S : List Sec} (hs : S.Pairwise Sec.before) (a' n' : Int) : findS a' n' (wr a n v S) = if a' = a ∧ n' = n then some (wrS a n v (findS a n S)) else findS a' n' S := by
  induction S with
  | nil =>
    by_cases h : a' = a ∧ n' = n
    · rw [if_pos h]
      show (if a = a' ∧ n = n' then _ else _) = _
      rw [if_pos ⟨h.1.symm, h.2.symm⟩]; rfl
    · rw [if_neg h]
      show (if a = a' ∧ n = n' then _ else _) = _
      rw [if_neg (fun e => h ⟨e.1.symm, e.2.symm⟩)]
  | cons s r ih =>
    obtain ⟨h1, h2⟩ := List.pairwise_cons.1 hs
    rw [wr]
    by_cases he : s.area = a ∧ s.n = n
    · rw [if_pos he]
      by_cases h : a' = a ∧ n' = n
      · rw [if_pos h, findS, if_pos ⟨he.1.trans h.1.symm, he.2.trans h.2.symm⟩, findS, if_pos he]; rfl
      · rw [if_neg h, findS, if_neg (fun e => h ⟨e.1.symm.trans he.1, e.2.symm.trans he.2⟩), findS, if_neg (fun e => h ⟨e.1.symm.trans he.1, e.2.symm.trans he.2⟩)]
    · rw [if_neg he]
      by_cases hb : a < s.area ∨ (a = s.area ∧ n < s.n)
      · rw [if_pos hb]
        have hnone : findS a n (s :: r) = none := by
          refine findS_none_of fun t ht e => ?_
          rcases List.mem_cons.1 ht with rfl | ht
          · exact he e
          · have := h1 t ht
            unfold Sec.before at this
            omega
        rw [hnone]
        by_cases h : a' = a ∧ n' = n
        · rw [if_pos h, findS, if_pos ⟨h.1.symm, h.2.symm⟩]; rfl
        · rw [if_neg h, findS, if_neg (fun e => h ⟨e.1.symm, e.2.symm⟩)]
      · rw [if_neg hb]
        have e2 : findS a n (s :: r) = findS a n r := by rw [findS, if_neg he]
        rw [e2, findS, ih h2]
        by_cases h : a' = a ∧ n' = n
        · rw [if_pos h, if_pos h, if_neg (fun e => he ⟨e.1.trans h.1, e.2.trans h.2⟩)]
        · rw [if_neg h, if_neg h, findS]
theorem wr_len {a n : Int} {v : List Nat} {S : List Sec} (hs : S.Pairwise Sec.before) : (wr a n v S).length = if (findS a n S).isSome then S.length else S.length + 1 := by
  induction S with
  | nil => rfl
  | cons s r ih =>
    obtain ⟨h1, h2⟩ := List.pairwise_cons.1 hs
    rw [wr]
    by_cases he : s.area = a ∧ s.n = n
    · rw [if_pos he, findS, if_pos he]; rfl
    · rw [if_neg he, findS, if_neg he]
      by_cases hb : a < s.area ∨ (a = s.area ∧ n < s.n)
      · rw [if_pos hb, findS_none_of (fun t ht e => by have := h1 t ht; unfold Sec.before at this; omega)]; rfl
      · rw [if_neg hb, List.length_cons, ih h2]
        split <;> rfl
/-- The sectors of an area synced. -/
def syS (s : Sec) : Sec := { s with last := s.cur, fresh := [] }
def sy (a : Int) (S : List Sec) : List Sec := S.map fun s => if s.area = a then syS s else s
def fr (a : Int) (S : List Sec) : List Sec := S.filter fun s => s.area ≠ a
theorem find_sy (a a' n' : Int) (S : List Sec) : findS a' n' (sy a S) = (findS a' n' S).map fun s => if s.area = a then syS s else s := by
  induction S with
  | nil => rfl
  | cons s r ih =>
    have e : (if s.area = a then syS s else s).area = s.area ∧ (if s.area = a then syS s else s).n = s.n := by split <;> exact ⟨rfl, rfl⟩
    rw [sy, List.map_cons, findS, findS, e.1, e.2]
    split
    · rfl
    · exact ih
theorem find_fr (a a' n' : Int) (S : List Sec) : findS a' n' (fr a S) = if a' = a then none else findS a' n' S := by
  induction S with
  | nil => simp [fr, findS]
  | cons s r ih =>
    by_cases h : s.area = a
    · rw [fr, List.filter_cons_of_neg (by simpa using h)]
      have ih' : findS a' n' (r.filter fun s => s.area ≠ a) = _ := ih
      rw [ih']
      by_cases e : a' = a
      · rw [if_pos e, if_pos e]
      · rw [if_neg e, if_neg e, findS, if_neg (fun e2 => e (e2.1.symm.trans h))]
    · rw [fr, List.filter_cons_of_pos (by simpa using h), findS, findS]
      have ih' : findS a' n' (r.filter fun s => s.area ≠ a) = _ := ih
      rw [ih']
      by_cases e : s.area = a' ∧ s.n = n'
      · rw [if_pos e, if_pos e, if_neg (fun e2 => h (e.1.trans e2))]
      · rw [if_neg e, if_neg e]
theorem sy_sorted {a : Int} {S : List Sec} (hs : S.Pairwise Sec.before) : (sy a S).Pairwise Sec.before := by
  rw [sy, List.pairwise_map]
  refine hs.imp fun {s t} h => ?_
  unfold Sec.before at *
  split <;> split <;> exact h
theorem fr_sorted {a : Int} {S : List Sec} (hs : S.Pairwise Sec.before) : (fr a S).Pairwise Sec.before := hs.filter _
end Go.Proofs.YthecngkdmnadoaaGreat
