/- A disk in memory: what its blocks hold, and what sectors that is. -/
import Derived.Test.YtpmmpdkeahmdiaaVers
namespace Go.Proofs.Ytpmmpdkeahmdiaa
open Go.RowKit
set_option maxRecDepth 100000

/-- A list of versions in memory: its block, how many there is room for, and they. -/
structure FS where
  g : Nat
  cap : Nat
  vs : List (List Nat)
def fsV (x : FS) : Value := .slice (some ⟨x.g, 0, none⟩) x.vs.length x.cap
def flat (vs : List (List Nat)) : List Value := vs.flatMap (·.map bv)
theorem flat_len (vs : List (List Nat)) (h : ∀ v ∈ vs, v.length = 64) : (flat vs).length = vs.length * 64 := by
  induction vs with
  | nil => rfl
  | cons v r ih =>
    have h1 := h v (.head _)
    have h2 := ih fun x hx => h x (.tail _ hx)
    simp only [flat, List.flatMap_cons, List.length_append, List.length_map, h1, List.length_cons] at h2 ⊢
    omega
def FS.ok (w : World) (x : FS) : Prop :=
  (∃ cur, w.heap[x.g]? = some (.cells cur 87 (0, 0)) ∧ cur.size = x.cap * 64 ∧ cur.toList.take (x.vs.length * 64) = flat x.vs) ∧ x.vs.length ≤ x.cap ∧ x.cap ≤ maxLen ∧ (∀ v ∈ x.vs, v.length = 64) ∧ x.vs ≠ []
theorem FS.ok.lt {w : World} {x : FS} (h : x.ok w) : x.g < w.heap.size := by
  obtain ⟨⟨cur, hb, _⟩, _⟩ := h; exact (Array.getElem?_eq_some_iff.1 hb).1
theorem FS.ok.same {w w' : World} {x : FS} (h : x.ok w) (e : w'.heap[x.g]? = w.heap[x.g]?) : x.ok w' := by
  obtain ⟨⟨cur, hb, r⟩, s⟩ := h; exact ⟨⟨cur, e.trans hb, r⟩, s⟩
theorem FS.ok.row {w : World} {x : FS} (h : x.ok w) : w.ownsRow 0 87 64 (fsV x) x.vs.length (flat x.vs) := by
  obtain ⟨⟨cur, hb, hs, ht⟩, h1, h2, h3, _⟩ := h
  exact ⟨flat_len _ h3, .inr ⟨x.g, x.cap, cur, rfl, Nat.zero_le _, hb, h1, h2, hs, ht⟩⟩

/-- The blocks of a disk beside its own: the maps, and what lies in them, in the order in which the maps have it. -/
structure Sh where
  lb : Nat
  fb : Nat
  L : List (Int × Nat × List (Int × List Nat))
  F : List (Int × Nat × List (Int × FS))
def inV {β : Type} (x : Nat × β) : Value := .map (some x.1)
def Sh.lblocks (L : List (Int × Nat × List (Int × List Nat))) : List Nat := L.map (·.2.1)
def Sh.fblocks (F : List (Int × Nat × List (Int × FS))) : List Nat := F.flatMap fun p => p.2.1 :: p.2.2.map (·.2.g)
def Sh.blocks (sh : Sh) : List Nat := sh.lb :: sh.fb :: (Sh.lblocks sh.L ++ Sh.fblocks sh.F)

structure Held (w : World) (sh : Sh) : Prop where
  hl : MapAt .u64 inV w sh.lb sh.L
  hf : MapAt .u64 inV w sh.fb sh.F
  hli : ∀ p ∈ sh.L, MapAt .i64 verV w p.2.1 p.2.2 ∧ (∀ s ∈ p.2.2, s.2.length = 64) ∧ p.2.2 ≠ []
  hfi : ∀ p ∈ sh.F, MapAt .i64 fsV w p.2.1 p.2.2 ∧ (∀ s ∈ p.2.2, s.2.ok w) ∧ p.2.2 ≠ []

theorem mem_lblocks {L : List (Int × Nat × List (Int × List Nat))} {p : Int × Nat × List (Int × List Nat)} (h : p ∈ L) : p.2.1 ∈ Sh.lblocks L := List.mem_map.2 ⟨p, h, rfl⟩
theorem mem_fblocks {F : List (Int × Nat × List (Int × FS))} {p : Int × Nat × List (Int × FS)} (h : p ∈ F) : p.2.1 ∈ Sh.fblocks F := List.mem_flatMap.2 ⟨p, h, .head _⟩
theorem mem_fblocks2 {F : List (Int × Nat × List (Int × FS))} {p : Int × Nat × List (Int × FS)} (h : p ∈ F) {s : Int × FS} (hs : s ∈ p.2.2) : s.2.g ∈ Sh.fblocks F := List.mem_flatMap.2 ⟨p, h, .tail _ (List.mem_map.2 ⟨s, hs, rfl⟩)⟩
theorem Held.same {w w' : World} {sh : Sh} (h : Held w sh) (e : ∀ b ∈ sh.blocks, w'.heap[b]? = w.heap[b]?) : Held w' sh := by
  refine ⟨h.hl.same (e _ (.head _)), h.hf.same (e _ (.tail _ (.head _))), fun p hp => ?_, fun p hp => ?_⟩
  · obtain ⟨h1, h2⟩ := h.hli p hp
    exact ⟨h1.same (e _ (.tail _ (.tail _ (List.mem_append_left _ (mem_lblocks hp))))), h2⟩
  · obtain ⟨h1, h2, h3⟩ := h.hfi p hp
    exact ⟨h1.same (e _ (.tail _ (.tail _ (List.mem_append_right _ (mem_fblocks hp))))), fun s hs => (h2 s hs).same (e _ (.tail _ (.tail _ (List.mem_append_right _ (mem_fblocks2 hp hs))))), h3⟩
theorem Held.lt {w : World} {sh : Sh} (h : Held w sh) : ∀ b ∈ sh.blocks, b < w.heap.size := by
  intro b hb
  rcases List.mem_cons.1 hb with rfl | hb
  · exact h.hl.lt
  rcases List.mem_cons.1 hb with rfl | hb
  · exact h.hf.lt
  rcases List.mem_append.1 hb with hb | hb
  · obtain ⟨p, hp, rfl⟩ := List.mem_map.1 hb
    exact (h.hli p hp).1.lt
  · obtain ⟨p, hp, hb⟩ := List.mem_flatMap.1 hb
    rcases List.mem_cons.1 hb with rfl | hb
    · exact (h.hfi p hp).1.lt
    · obtain ⟨s, hs, rfl⟩ := List.mem_map.1 hb
      exact ((h.hfi p hp).2.1 s hs).lt

/-- A sector: what lasts, and what was written since. -/
structure Sec where
  area : Int
  n : Int
  last : Option (List Nat)
  fresh : List (List Nat)
def Sec.before (s t : Sec) : Prop := s.area < t.area ∨ (s.area = t.area ∧ s.n < t.n)
def findS (a n : Int) : List Sec → Option Sec
  | [] => none
  | s :: r => if s.area = a ∧ s.n = n then some s else findS a n r
/-- What is read of a sector. -/
def Sec.cur (s : Sec) : Option (List Nat) := match s.fresh.getLast? with | some v => some v | none => s.last
def lget (sh : Sh) (a n : Int) : Option (List Nat) := (mget a sh.L).bind fun x => mget n x.2
def fget (sh : Sh) (a n : Int) : List (List Nat) := match (mget a sh.F).bind fun x => mget n x.2 with | some x => x.vs | none => []

/-- The sectors that the maps hold. -/
structure Rep (sh : Sh) (S : List Sec) : Prop where
  sorted : S.Pairwise Sec.before
  last : ∀ a n, lget sh a n = (findS a n S).bind (·.last)
  fresh : ∀ a n, fget sh a n = ((findS a n S).map (·.fresh)).getD []
  there : ∀ s ∈ S, s.last ≠ none ∨ s.fresh ≠ []

/-- A disk as the document has it. -/
structure DS where
  room : Int
  steps : Int
  ahead : Int
  dead : Bool
  armed : Bool
  secs : List Sec
def i64v (n : Int) : Value := .int .i64 n
/-- A disk in block p: its numbers, its sectors; fp: all blocks that are its own. N: no number of it is greater. -/
def DiskAt (N : Nat) (w : World) (p : Nat) (d : DS) (fp : List Nat) : Prop :=
  ∃ sh : Sh, w.heap[p]? = some (.cells #[.int .i64 d.room, .int .i64 (d.secs.length : Int), .int .i64 d.steps, .bool d.dead, .bool d.armed, .int .i64 d.ahead, .map (some sh.lb), .map (some sh.fb)] 78 (0, 0)) ∧
    Held w sh ∧ Rep sh d.secs ∧ fp = p :: sh.blocks ∧ fp.Nodup ∧ 0 ≤ d.room ∧ d.room ≤ 9223372036854775807 ∧ 0 ≤ d.steps ∧ d.steps ≤ N ∧ d.secs.length ≤ N ∧ (d.secs.length : Int) ≤ d.room ∧ (∀ s ∈ d.secs, s.fresh.length ≤ N) ∧
    -9223372036854775808 ≤ d.ahead ∧ d.ahead ≤ 9223372036854775807 ∧ (d.armed = true → 0 ≤ d.ahead)

/-- No block that was there is changed but those of fp. -/
structure Only (fp : List Nat) (w w' : World) : Prop where
  os : w'.os = w.os
  tape : w'.tape = w.tape
  output : w'.output = w.output
  size : w.heap.size ≤ w'.heap.size
  block : ∀ k, k < w.heap.size → k ∉ fp → w'.heap[k]? = w.heap[k]?
theorem Only.refl (fp : List Nat) (w : World) : Only fp w w := ⟨rfl, rfl, rfl, Nat.le_refl _, fun _ _ _ => rfl⟩
theorem Only.trans {fp fp' : List Nat} {a b c : World} (h : Only fp a b) (k : Only fp' b c) (hs : ∀ x ∈ fp', x ∈ fp ∨ a.heap.size ≤ x) : Only fp a c :=
  ⟨k.os.trans h.os, k.tape.trans h.tape, k.output.trans h.output, Nat.le_trans h.size k.size, fun i hi hr => (k.block i (Nat.lt_of_lt_of_le hi h.size) (fun hx => by
    rcases hs i hx with h1 | h1
    · exact hr h1
    · omega)).trans (h.block i hi hr)⟩
theorem Only.of_below {fp : List Nat} {w w' : World} (h : Below w.heap.size w w') : Only fp w w' := ⟨h.os, h.tape, h.output, h.size, fun k hk _ => h.block k hk⟩
theorem Only.of_one {fp : List Nat} {b : Nat} {w w' : World} (h : One b w w') (hb : b ∈ fp) : Only fp w w' := ⟨h.os, h.tape, h.output, Nat.le_of_eq h.size.symm, fun k _ hk => h.block k (fun e => hk (e ▸ hb))⟩
theorem Only.then {fp fp' : List Nat} {a b c : World} (h : Only fp a b) (k : Only fp' b c) (hs : ∀ x ∈ fp', x ∈ fp) : Only fp a c := h.trans k fun x hx => .inl (hs x hx)
theorem Only.below {fp : List Nat} {B : Nat} {w w' : World} (h : Only fp w w') (hB : B ≤ w.heap.size) (hf : ∀ x ∈ fp, B ≤ x) : Below B w w' :=
  ⟨h.os, h.tape, h.output, h.size, fun k hk => h.block k (by omega) (fun hx => by have := hf k hx; omega)⟩
theorem Only.drew {fp : List Nat} {a w : World} (h : Only fp a w) : Only fp a w.drew := ⟨h.os, h.tape, h.output, h.size, h.block⟩
theorem Only.drewN {fp : List Nat} {a w : World} (h : Only fp a w) (n : Nat) : Only fp a (w.drewN n) := ⟨h.os, h.tape, h.output, h.size, h.block⟩

theorem DiskAt.lt {N : Nat} {w : World} {p : Nat} {d : DS} {fp : List Nat} (h : DiskAt N w p d fp) : ∀ b ∈ fp, b < w.heap.size := by
  obtain ⟨sh, h1, h2, _, rfl, _⟩ := h
  intro b hb
  rcases List.mem_cons.1 hb with rfl | hb
  · exact (Array.getElem?_eq_some_iff.1 h1).1
  · exact h2.lt b hb
theorem DiskAt.mem {N : Nat} {w : World} {p : Nat} {d : DS} {fp : List Nat} (h : DiskAt N w p d fp) : p ∈ fp := by
  obtain ⟨sh, h1, h2, _, rfl, _⟩ := h; exact .head _
/-- A disk stays as it is while its blocks do. -/
theorem DiskAt.same {N : Nat} {w w' : World} {p : Nat} {d : DS} {fp : List Nat} (h : DiskAt N w p d fp) (e : ∀ b ∈ fp, w'.heap[b]? = w.heap[b]?) : DiskAt N w' p d fp := by
  obtain ⟨sh, h1, h2, h3, rfl, h5⟩ := h
  exact ⟨sh, (e p (.head _)).trans h1, h2.same fun b hb => e b (.tail _ hb), h3, rfl, h5⟩
theorem DiskAt.below {N : Nat} {w w' : World} {p : Nat} {d : DS} {fp : List Nat} (h : DiskAt N w p d fp) (hb : Below w.heap.size w w') : DiskAt N w' p d fp := h.same fun b hx => hb.block b (h.lt b hx)
theorem DiskAt.apart {N : Nat} {w w' : World} {p : Nat} {d : DS} {fp fq : List Nat} (h : DiskAt N w p d fp) (hb : Only fq w w') (hd : ∀ x ∈ fp, x ∉ fq) : DiskAt N w' p d fp := h.same fun b hx => hb.block b (h.lt b hx) (hd b hx)
theorem DiskAt.mono {N M : Nat} {w : World} {p : Nat} {d : DS} {fp : List Nat} (h : DiskAt N w p d fp) (hm : N ≤ M) : DiskAt M w p d fp := by
  obtain ⟨sh, h1, h2, h3, h4, h5, h6, h7, h8, h9, h10, h11, h12, h13⟩ := h
  exact ⟨sh, h1, h2, h3, h4, h5, h6, h7, h8, by omega, by omega, h11, fun s hs => Nat.le_trans (h12 s hs) hm, h13⟩
end Go.Proofs.Ytpmmpdkeahmdiaa
